/- Which keys a message touches, and what of it lies in a range, by the program. Conditions: lengths below 2^40. -/
import Derived.Test.YthledgkjfjdjoaaGreatMsC
import Derived.Laws.Cover1
import Derived.Deep.Cut
namespace Go.Proofs.YthledgkjfjdjoaaGreat.Ms
open Go.ChangeShapes Go.WideShapes Go.RowKit Go.Codec Go.Mt Go.Blk
set_option maxRecDepth 100000
set_option linter.unusedSimpArgs false
set_option linter.unusedVariables false
theorem le_bool (a b : ByteArray) : (Op.bytesLess a.toList b.toList || a.toList == b.toList) = !lt b a := by
  cases h : lt b a with
  | true =>
    have h1 : lt a b = false := by
      cases h1 : lt a b with
      | false => rfl
      | true => have := lt_trans h h1; rw [lt_self] at this; cases this
    have h2 : ¬ a = b := by intro e; subst e; rw [lt_self] at h; cases h
    rw [lt] at h1
    rw [h1, eq_bool, decide_eq_false h2]; rfl
  | false =>
    cases h1 : lt a b with
    | true => rw [lt] at h1; rw [h1]; rfl
    | false => rw [eq_bool, decide_eq_true (lt_tri h1 h)]; simp
theorem le_hyp {a b : ByteArray} {c : Bool} (h : Op.bytesLess b.toList a.toList = c) : (Op.bytesLess a.toList b.toList || a.toList == b.toList) = !c := by rw [le_bool, lt, h]
theorem isIn_any (q f t : ByteArray) (w : World) : Calls Tryz.prog 47 #[.string q, .string f, .string t] w fun e w' => e = .returned (.bool (inR q f t)) ∧ w = w' := by
  unfold inR
  cases h1 : lt q f with
  | true =>
    rw [lt] at h1
    have h5 := le_hyp h1
    go_enter Tryz.func47, Tryz.ntmps47
    go_wp2
    go_ret
    exact ⟨rfl, rfl⟩
  | false =>
    rw [lt] at h1
    have h5 := le_hyp h1
    by_cases h2 : t.size = 0
    · have e : t = ⟨#[]⟩ := empty_of_size h2
      subst e
      go_enter Tryz.func47, Tryz.ntmps47
      go_wp2
      go_ret
      exact ⟨rfl, rfl⟩
    · have h3 : ¬ t.toList = [] := fun h => h2 (list_nil.1 h)
      have h4 : t.toList.isEmpty = false := by rw [isEmpty_size, decide_eq_false h2]
      rw [decide_eq_false h2, lt]
      go_enter Tryz.func47, Tryz.ntmps47
      go_wp2
      go_ret
      exact ⟨rfl, rfl⟩
theorem tch_3 (k t v q : ByteArray) (b1 b2 m : Bool) (h1 : Op.bytesLess q.toList k.toList = b1) (h2 : Op.bytesLess q.toList t.toList = b2) (H : ∀ w, Calls Tryz.prog 33 #[.agg #[.int .i64 3, .string k, .string t, .string v]] w fun e w' => e = .returned (.bool m) ∧ Below w.heap.size w w') (w : World) :
    Calls Tryz.prog 20 #[.agg #[.int .i64 3, .string k, .string t, .string v], .string q] w fun e w' => e = .returned (.bool (m && (!b1 && b2))) ∧ Below w.heap.size w w' := by
  have HX := Lib.hid (Bk.Box.new w 23 #[.int .i64 3, .string k, .string t, .string v])
  have h5 := le_hyp h1
  cases b1 with
  | true =>
    go_enter Tryz.func20, Tryz.ntmps20
    go_wp2_with fail
    go_ret
    exact ⟨by simp, HX.out.below⟩
  | false =>
    cases b2 with
    | false =>
      go_enter Tryz.func20, Tryz.ntmps20
      go_wp2_with fail
      go_ret
      exact ⟨by simp, HX.out.below⟩
    | true =>
      go_enter Tryz.func20, Tryz.ntmps20
      go_wp2_with fail
      refine (H _).mono ?_; rintro e w1 ⟨rfl, hb⟩
      replace HX := Lib.hid (HX.out.later hb); clear hb
      go_wp2_with fail
      go_ret
      exact ⟨by simp, HX.out.below⟩
theorem tch_o (o : Int) (ho : (o == 3) = false) (k t v q : ByteArray) (b m : Bool) (h1 : (k.toList == q.toList) = b) (H : ∀ w, Calls Tryz.prog 33 #[.agg #[.int .i64 o, .string k, .string t, .string v]] w fun e w' => e = .returned (.bool m) ∧ Below w.heap.size w w') (w : World) :
    Calls Tryz.prog 20 #[.agg #[.int .i64 o, .string k, .string t, .string v], .string q] w fun e w' => e = .returned (.bool (m && b)) ∧ Below w.heap.size w w' := by
  have HX := Lib.hid (Bk.Box.new w 23 #[.int .i64 o, .string k, .string t, .string v])
  cases b with
  | false =>
    have h2 : ¬ k.toList = q.toList := by simpa using h1
    go_enter Tryz.func20, Tryz.ntmps20
    go_wp2_with fail
    go_ret
    exact ⟨by simp, HX.out.below⟩
  | true =>
    have h2 : k.toList = q.toList := by simpa using h1
    have h3 : k = q := toList_inj h2
    subst h3
    go_enter Tryz.func20, Tryz.ntmps20
    go_wp2_with fail
    refine (H _).mono ?_; rintro e w1 ⟨rfl, hb⟩
    replace HX := Lib.hid (HX.out.later hb); clear hb
    go_wp2_with fail
    go_ret
    exact ⟨by simp, HX.out.below⟩
theorem touches_any (m : Msg) (q : ByteArray) (hv : m.v.size ≤ 1099511627776) (w : World) : Calls Tryz.prog 20 #[m.val, .string q] w fun e w' => e = .returned (.bool (tch m q)) ∧ Below w.heap.size w w' := by
  have H := mayBe_any m hv
  unfold tch
  obtain ⟨o, k, t, v⟩ := m
  unfold Msg.val at H ⊢
  dsimp only at H ⊢
  by_cases ho : o = 3
  · subst ho
    rw [if_pos rfl]
    exact tch_3 k t v q _ _ _ rfl rfl H w
  · rw [if_neg ho]
    refine tch_o o (by simpa using ho) k t v q _ _ ?_ H w
    rw [eq_bool]
abbrev nils : Array Value := #[.int .i64 0, .string ⟨#[]⟩, .string ⟨#[]⟩, .string ⟨#[]⟩]
abbrev boxes3 (w : World) (msg : Array Value) (g : Nat) (arr : Array Value) : List (Nat × TypeId × Array Value) := [(w.heap.size, 23, msg), (w.heap.size + 1, 23, nils), (g, 23, arr)]
theorem part_no (o : Int) (k t v f u : ByteArray) (H : ∀ w, Calls Tryz.prog 33 #[.agg #[.int .i64 o, .string k, .string t, .string v]] w fun e w' => e = .returned (.bool false) ∧ Below w.heap.size w w') (w : World) :
    Calls Tryz.prog 18 #[.agg #[.int .i64 o, .string k, .string t, .string v], .string f, .string u] w fun e w' => e = .returned (.tuple #[nil.val, .bool false]) ∧ Below w.heap.size w w' := by
  have HX := Lib.hid (((Mt.Fr.nil w).new 23 #[.int .i64 o, .string k, .string t, .string v]).new 23 nils)
  rw [show (w.alloc (Obj.cells #[.int .i64 o, .string k, .string t, .string v] 23)).heap.size = w.heap.size + 1 by simp] at HX
  go_enter Tryz.func18, Tryz.ntmps18
  go_wp2_with fail
  refine (H _).mono ?_; rintro e w1 ⟨rfl, hb⟩
  replace HX := Lib.hid (HX.out.later hb); clear hb
  obtain ⟨c0, c1, c2, c3⟩ := HX.out.c4 0 rfl
  obtain ⟨⟨f0, f1, f2, f3⟩, hlz⟩ := HX.out.f4 1 rfl
  obtain ⟨d0, d1, d2, d3⟩ := HX.out.c4 1 rfl
  go_wp2_with fail
  have HZ := Lib.hid (HX.out.four 1 rfl (.int .i64 0) (.string ⟨#[]⟩) (.string ⟨#[]⟩) (.string ⟨#[]⟩))
  obtain ⟨e0, e1, e2, e3⟩ := HZ.out.c4 1 rfl
  exact bodyPost_ret (v := .tuple #[nil.val, .bool false]) (by simp [results, Tryz.results18, go_sem, e0, e1, e2, e3, nil, Msg.val]) rfl ⟨rfl, HZ.out.below⟩
theorem part_out (o : Int) (ho : (o == 3) = false) (k t v f u : ByteArray) (H : ∀ w, Calls Tryz.prog 33 #[.agg #[.int .i64 o, .string k, .string t, .string v]] w fun e w' => e = .returned (.bool true) ∧ Below w.heap.size w w') (hi : inR k f u = false) (w : World) :
    Calls Tryz.prog 18 #[.agg #[.int .i64 o, .string k, .string t, .string v], .string f, .string u] w fun e w' => e = .returned (.tuple #[nil.val, .bool false]) ∧ Below w.heap.size w w' := by
  have HX := Lib.hid (((Mt.Fr.nil w).new 23 #[.int .i64 o, .string k, .string t, .string v]).new 23 nils)
  have I := isIn_any k f u
  rw [hi] at I
  rw [show (w.alloc (Obj.cells #[.int .i64 o, .string k, .string t, .string v] 23)).heap.size = w.heap.size + 1 by simp] at HX
  go_enter Tryz.func18, Tryz.ntmps18
  go_wp2_with fail
  refine (H _).mono ?_; rintro e w1 ⟨rfl, hb⟩
  replace HX := Lib.hid (HX.out.later hb); clear hb
  obtain ⟨c0, c1, c2, c3⟩ := HX.out.c4 0 rfl
  have hp := HX.out
  have hpd := Mt.Fr.drew hp
  go_upto_region 3 with fail
  go_cut [8, 9] from 10 (fun p q wx => ∃ g, p = .pointer (some ⟨g, 0, none⟩) ∧ q = .bool false ∧ Mt.Fr w (boxes3 w #[.int .i64 o, .string k, .string t, .string v] g #[.int .i64 o, .string k, .string t, .string v]) wx)
  case first =>
    go_region_held3 (fun wx => wx.cell? ⟨w.heap.size, 0, none⟩ = some (.int .i64 o) ∧ wx.cell? ⟨w.heap.size, 1, none⟩ = some (.string k) ∧ wx.cell? ⟨w.heap.size, 2, none⟩ = some (.string t) ∧ wx.cell? ⟨w.heap.size, 3, none⟩ = some (.string v))
      (first | (with_reducible exact Mt.Fr.c4 (by assumption) 0 rfl) | (with_reducible exact Mt.Fr.c4 (Mt.Fr.new (by assumption) _ _) 0 rfl) | (with_reducible exact Mt.Fr.c4 (Mt.Fr.drew (Mt.Fr.new (by assumption) _ _)) 0 rfl))
      (first | (with_reducible refine (I _).mono ?_; rintro e w1 ⟨rfl, rfl⟩))
    all_goals
      go_wp2_with fail
      go_meet
      case rel => exact ⟨_, rfl, rfl, (Mt.Fr.new hp _ _).drew⟩
  case rest =>
    obtain ⟨g, rfl, rfl, hp⟩ := hcut
    clear HX c0 c1 c2 c3
    have HX := Lib.hid hp; clear hp
    obtain ⟨c0, c1, c2, c3⟩ := HX.out.c4 0 rfl
    obtain ⟨⟨f0, f1, f2, f3⟩, hlz⟩ := HX.out.f4 1 rfl
    obtain ⟨d0, d1, d2, d3⟩ := HX.out.c4 1 rfl
    go_wp2_with fail
    have HZ := Lib.hid (HX.out.four 1 rfl (.int .i64 0) (.string ⟨#[]⟩) (.string ⟨#[]⟩) (.string ⟨#[]⟩))
    obtain ⟨e0, e1, e2, e3⟩ := HZ.out.c4 1 rfl
    exact bodyPost_ret (v := .tuple #[nil.val, .bool false]) (by simp [results, Tryz.results18, go_sem, e0, e1, e2, e3, nil, Msg.val]) rfl ⟨rfl, HZ.out.below⟩
theorem part_in (o : Int) (ho : (o == 3) = false) (k t v f u : ByteArray) (H : ∀ w, Calls Tryz.prog 33 #[.agg #[.int .i64 o, .string k, .string t, .string v]] w fun e w' => e = .returned (.bool true) ∧ Below w.heap.size w w') (hi : inR k f u = true)
    (n : Nat) (hn : n ≤ 2) (offs : Nat → Nat) (ss : Nat → ByteArray) (hC : ∀ i, i < n → ∀ w, Calls Tryz.prog 48 #[.string (ss i)] w fun e w' => e = .returned (.string (ss i)) ∧ Below w.heap.size w w') (cs : Nat → Array Value) (hcs : ∀ g, (cs g).size = n)
    (hF : ∀ g w, Is w g 23 #[.int .i64 o, .string k, .string t, .string v] → Calls Tryz.prog 35 #[.pointer (some ⟨g, 0, none⟩)] w (Fields (cs g) w))
    (hcell : ∀ g i, i < n → (cs g)[i]? = some (.pointer (some ⟨g, offs i, none⟩))) (hval : ∀ i, i < n → (#[.int .i64 o, .string k, .string t, .string v] : Array Value)[offs i]? = some (.string (ss i)))
    (hset : ∀ i, i < n → (#[.int .i64 o, .string k, .string t, .string v] : Array Value).setIfInBounds (offs i) (.string (ss i)) = #[.int .i64 o, .string k, .string t, .string v]) (w : World) :
    Calls Tryz.prog 18 #[.agg #[.int .i64 o, .string k, .string t, .string v], .string f, .string u] w fun e w' => e = .returned (.tuple #[.agg #[.int .i64 o, .string k, .string t, .string v], .bool true]) ∧ Below w.heap.size w w' := by
  have HX := Lib.hid (((Mt.Fr.nil w).new 23 #[.int .i64 o, .string k, .string t, .string v]).new 23 nils)
  have I := isIn_any k f u
  rw [hi] at I
  have HF := Lib.hid hF; have HC := Lib.hid hcell; have HV := Lib.hid hval; have HZ := Lib.hid hcs; have HE := Lib.hid hset; have HD := Lib.hid hC
  clear hF hcell hval hcs hset hC
  rw [show (w.alloc (Obj.cells #[.int .i64 o, .string k, .string t, .string v] 23)).heap.size = w.heap.size + 1 by simp] at HX
  go_enter Tryz.func18, Tryz.ntmps18
  go_wp2_with fail
  refine (H _).mono ?_; rintro e w1 ⟨rfl, hb⟩
  replace HX := Lib.hid (HX.out.later hb); clear hb
  obtain ⟨c0, c1, c2, c3⟩ := HX.out.c4 0 rfl
  have hp := HX.out
  have hpd := Mt.Fr.drew hp
  go_upto_region 3 with fail
  go_cut [8, 9] from 10 (fun p q wx => ∃ g, p = .pointer (some ⟨g, 0, none⟩) ∧ q = .bool true ∧ Mt.Fr w (boxes3 w #[.int .i64 o, .string k, .string t, .string v] g #[.int .i64 o, .string k, .string t, .string v]) wx)
  case first =>
    go_region_held3 (fun wx => wx.cell? ⟨w.heap.size, 0, none⟩ = some (.int .i64 o) ∧ wx.cell? ⟨w.heap.size, 1, none⟩ = some (.string k) ∧ wx.cell? ⟨w.heap.size, 2, none⟩ = some (.string t) ∧ wx.cell? ⟨w.heap.size, 3, none⟩ = some (.string v))
      (first | (with_reducible exact Mt.Fr.c4 (by assumption) 0 rfl) | (with_reducible exact Mt.Fr.c4 (Mt.Fr.new (by assumption) _ _) 0 rfl) | (with_reducible exact Mt.Fr.c4 (Mt.Fr.drew (Mt.Fr.new (by assumption) _ _)) 0 rfl))
      (first | (with_reducible refine (I _).mono ?_; rintro e w1 ⟨rfl, rfl⟩))
    all_goals
      go_wp2_with fail
      go_meet
      case rel => exact ⟨_, rfl, rfl, (Mt.Fr.new hp _ _).drew⟩
  case rest =>
    obtain ⟨g, rfl, rfl, hp⟩ := hcut
    clear HX c0 c1 c2 c3 hpd
    have HX := Lib.hid hp; clear hp
    obtain ⟨c0, c1, c2, c3⟩ := HX.out.c4 0 rfl
    go_wp2_with fail
    refine (HF.out _ _ (HX.out.at 2 rfl)).mono ?_; rintro e w3 ⟨rfl, hr, hb⟩
    have H4 := Lib.hid (And.intro (HX.out.later hb) (And.intro hr (HX.out.at 2 rfl).lt)); clear HX hr hb c0 c1 c2 c3
    rw [HZ.out]
    generalize wc.heap.size = r at *
    go_wp2_with fail
    go_loopw [47] (fun i W => ∃ (j : Nat), j ≤ n ∧ i = .int .i64 j ∧ Mt.Fr w (boxes3 w #[.int .i64 o, .string k, .string t, .string v] g #[.int .i64 o, .string k, .string t, .string v]) W ∧ Is W r 62 (cs g) ∧ g < r) (fun i _ => n - (intOf i).toNat)
    case atStart => exact ⟨0, by omega, rfl, H4.out⟩
    case round =>
      clear H4
      obtain ⟨j, hj, rfl, h4⟩ := hrel
      have H4 := Lib.hid h4; clear h4
      by_cases hlt : j < n
      · have hc : _ := H4.out.2.1.cell j
        rw [HC.out _ _ hlt] at hc
        have hl := H4.out.2.1.lt
        have hbx := (H4.out.1.at 2 rfl).cell (offs j)
        rw [HV.out _ hlt] at hbx
        have hl2 := (H4.out.1.at 2 rfl).lt
        go_wp2_with fail
        refine (HD.out j hlt _).mono ?_; rintro e w4 ⟨rfl, hb⟩
        replace H4 := Lib.hid (And.intro (H4.out.1.later hb) (And.intro (H4.out.2.1.kept (grow_below hb none) (by simp)) H4.out.2.2))
        clear hb hc hl hbx hl2
        have hf := (H4.out.1.at 2 rfl).frozen (offs j)
        have hl2 := (H4.out.1.at 2 rfl).lt
        have hbx := (H4.out.1.at 2 rfl).cell (offs j)
        rw [HV.out _ hlt] at hbx
        go_wp2_with fail
        refine ⟨⟨j + 1, by omega, by go_num, ?_⟩, ?_⟩
        · have h5 := H4.out.1.put 2 rfl (offs j) (.string (ss j))
          rw [HE.out j hlt] at h5
          exact ⟨h5, H4.out.2.1.other (by have := H4.out.2.2; simp; omega) _, H4.out.2.2⟩
        · simp [intOf]; omega
      · obtain rfl : j = n := by omega
        obtain ⟨c0, c1, c2, c3⟩ := H4.out.1.c4 2 rfl
        obtain ⟨⟨f0, f1, f2, f3⟩, hlz⟩ := H4.out.1.f4 1 rfl
        obtain ⟨d0, d1, d2, d3⟩ := H4.out.1.c4 1 rfl
        go_wp2_with fail
        have HZ := Lib.hid (H4.out.1.four 1 rfl (.int .i64 o) (.string k) (.string t) (.string v))
        obtain ⟨e0, e1, e2, e3⟩ := HZ.out.c4 1 rfl
        exact bodyPost_ret (v := .tuple #[.agg #[.int .i64 o, .string k, .string t, .string v], .bool true]) (by simp [results, Tryz.results18, go_sem, e0, e1, e2, e3]) rfl ⟨rfl, HZ.out.below⟩
theorem off_of (g : Nat) (K T v : ByteArray) (j : Nat) (hj : j < 2) : (#[pf g 1, pf g 2] : Array Value)[j]? = some (.pointer (some ⟨g, two 1 2 j, none⟩)) ∧ (#[.int .i64 3, .string K, .string T, .string v] : Array Value)[two 1 2 j]? = some (.string (two K T j)) ∧ (#[.int .i64 3, .string K, .string T, .string v] : Array Value).setIfInBounds (two 1 2 j) (.string (two K T j)) = #[.int .i64 3, .string K, .string T, .string v] := by
  rcases j with _ | _ | j
  · exact ⟨rfl, rfl, rfl⟩
  · exact ⟨rfl, rfl, rfl⟩
  · omega
theorem run_max_str (P : Program) (x y : ByteArray) (ts : Array TypeId) (ty : TypeId) (w : World) : (Builtin.max_ ts ty #[.string x, .string y]).run P w = .ok (.string (mx x y)) w := by
  unfold mx lt
  cases h : Op.bytesLess x.toList y.toList <;> simp [Builtin.max_, Builtin.max2, Op.stringOp, h, asBool]
theorem run_min_str (P : Program) (x y : ByteArray) (ts : Array TypeId) (ty : TypeId) (w : World) : (Builtin.min_ ts ty #[.string x, .string y]).run P w = .ok (.string (mn x y)) w := by
  have e : (Op.bytesLess x.toList y.toList || x.toList == y.toList) = !lt y x := le_bool x y
  unfold mn
  cases h : lt y x <;> rw [h] at e <;> simp at e <;> simp [Builtin.min_, Builtin.min2, Op.stringOp, e, asBool]
theorem part_3on (k t v f u K T : ByteArray) (H : ∀ w, Calls Tryz.prog 33 #[.agg #[.int .i64 3, .string k, .string t, .string v]] w fun e w' => e = .returned (.bool true) ∧ Below w.heap.size w w')
    (hC : ∀ j, j < 2 → ∀ w, Calls Tryz.prog 48 #[.string (two K T j)] w fun e w' => e = .returned (.string (two K T j)) ∧ Below w.heap.size w w')
    (hK : ∀ ts ty w, (Builtin.max_ ts ty #[.string k, .string f]).run Tryz.prog w = .ok (.string K) w)
    (hu : u = ⟨#[]⟩) (hT : t = T) (hl : Op.bytesLess K.toList T.toList = false) (w : World) :
    Calls Tryz.prog 18 #[.agg #[.int .i64 3, .string k, .string t, .string v], .string f, .string u] w fun e w' => e = .returned (.tuple #[nil.val, .bool false]) ∧ Below w.heap.size w w' := by
  have HX := Lib.hid (((Mt.Fr.nil w).new 23 #[.int .i64 3, .string k, .string t, .string v]).new 23 nils)
  have I := isIn_any k f u
  generalize inR k f u = b0 at I
  subst hu; subst hT
  have HD := Lib.hid hC
  clear hC
  rw [show (w.alloc (Obj.cells #[.int .i64 3, .string k, .string t, .string v] 23)).heap.size = w.heap.size + 1 by simp] at HX
  go_enter Tryz.func18, Tryz.ntmps18
  go_wp2_with fail
  refine (H _).mono ?_; rintro e w1 ⟨rfl, hb⟩
  replace HX := Lib.hid (HX.out.later hb); clear hb
  obtain ⟨c0, c1, c2, c3⟩ := HX.out.c4 0 rfl
  have hp := HX.out
  have hpd := Mt.Fr.drew hp
  go_upto_region 3 with fail
  go_cut [8, 9] from 10 (fun p q wx => ∃ g, p = .pointer (some ⟨g, 0, none⟩) ∧ q = .bool b0 ∧ Mt.Fr w (boxes3 w #[.int .i64 3, .string k, .string t, .string v] g #[.int .i64 3, .string k, .string t, .string v]) wx)
  case first =>
    go_region_held3 (fun wx => wx.cell? ⟨w.heap.size, 0, none⟩ = some (.int .i64 3) ∧ wx.cell? ⟨w.heap.size, 1, none⟩ = some (.string k) ∧ wx.cell? ⟨w.heap.size, 2, none⟩ = some (.string t) ∧ wx.cell? ⟨w.heap.size, 3, none⟩ = some (.string v))
      (first | (with_reducible exact Mt.Fr.c4 (by assumption) 0 rfl) | (with_reducible exact Mt.Fr.c4 (Mt.Fr.new (by assumption) _ _) 0 rfl) | (with_reducible exact Mt.Fr.c4 (Mt.Fr.drew (Mt.Fr.new (by assumption) _ _)) 0 rfl))
      (first | (with_reducible refine (I _).mono ?_; rintro e w1 ⟨rfl, rfl⟩))
    all_goals
      go_wp2_with fail
      go_meet
      case rel => exact ⟨_, rfl, rfl, (Mt.Fr.new hp _ _).drew⟩
  case rest =>
    obtain ⟨g, rfl, rfl, hp⟩ := hcut
    clear HX c0 c1 c2 c3 hpd
    have HX := Lib.hid hp; clear hp
    obtain ⟨c0, c1, c2, c3⟩ := HX.out.c4 0 rfl
    have g1 := (HX.out.f4 2 rfl).1.2.1
    have g2 := (HX.out.f4 2 rfl).2
    have hpc := (HX.out.c4 2 rfl).2.1
    go_upto_region 6 with fail
    have H7 := HX.out.put 2 rfl 1 (.string K)
    replace HX := Lib.hid H7; clear H7 hpc c0 c1 c2 c3
    generalize World.setCell _ _ _ = w5 at *
    have g1 := (HX.out.f4 2 rfl).1.2.2.1
    have g2 := (HX.out.f4 2 rfl).2
    have hpc := (HX.out.at 2 rfl).cell 2
    have c2 := (HX.out.at 0 rfl).cell 2
    go_upto_region 8 with fail

    have c1 := (HX.out.at 2 rfl).cell 1
    have c2 := (HX.out.at 2 rfl).cell 2
    simp at c1 c2
    obtain ⟨⟨f0, f1, f2, f3⟩, hlz⟩ := HX.out.f4 1 rfl
    obtain ⟨d0, d1, d2, d3⟩ := HX.out.c4 1 rfl
    go_wp2_with fail
    have HZ := Lib.hid (HX.out.four 1 rfl (.int .i64 0) (.string ⟨#[]⟩) (.string ⟨#[]⟩) (.string ⟨#[]⟩))
    obtain ⟨e0, e1, e2, e3⟩ := HZ.out.c4 1 rfl
    exact bodyPost_ret (v := .tuple #[nil.val, .bool false]) (by simp [results, Tryz.results18, go_sem, e0, e1, e2, e3, nil, Msg.val]) rfl ⟨rfl, HZ.out.below⟩
theorem part_3oy (k t v f u K T : ByteArray) (H : ∀ w, Calls Tryz.prog 33 #[.agg #[.int .i64 3, .string k, .string t, .string v]] w fun e w' => e = .returned (.bool true) ∧ Below w.heap.size w w')
    (hC : ∀ j, j < 2 → ∀ w, Calls Tryz.prog 48 #[.string (two K T j)] w fun e w' => e = .returned (.string (two K T j)) ∧ Below w.heap.size w w')
    (hK : ∀ ts ty w, (Builtin.max_ ts ty #[.string k, .string f]).run Tryz.prog w = .ok (.string K) w)
    (hu : u = ⟨#[]⟩) (hT : t = T) (hl : Op.bytesLess K.toList T.toList = true) (w : World) :
    Calls Tryz.prog 18 #[.agg #[.int .i64 3, .string k, .string t, .string v], .string f, .string u] w fun e w' => e = .returned (.tuple #[.agg #[.int .i64 3, .string K, .string T, .string v], .bool true]) ∧ Below w.heap.size w w' := by
  have HX := Lib.hid (((Mt.Fr.nil w).new 23 #[.int .i64 3, .string k, .string t, .string v]).new 23 nils)
  have I := isIn_any k f u
  generalize inR k f u = b0 at I
  subst hu; subst hT
  have HD := Lib.hid hC
  clear hC
  rw [show (w.alloc (Obj.cells #[.int .i64 3, .string k, .string t, .string v] 23)).heap.size = w.heap.size + 1 by simp] at HX
  go_enter Tryz.func18, Tryz.ntmps18
  go_wp2_with fail
  refine (H _).mono ?_; rintro e w1 ⟨rfl, hb⟩
  replace HX := Lib.hid (HX.out.later hb); clear hb
  obtain ⟨c0, c1, c2, c3⟩ := HX.out.c4 0 rfl
  have hp := HX.out
  have hpd := Mt.Fr.drew hp
  go_upto_region 3 with fail
  go_cut [8, 9] from 10 (fun p q wx => ∃ g, p = .pointer (some ⟨g, 0, none⟩) ∧ q = .bool b0 ∧ Mt.Fr w (boxes3 w #[.int .i64 3, .string k, .string t, .string v] g #[.int .i64 3, .string k, .string t, .string v]) wx)
  case first =>
    go_region_held3 (fun wx => wx.cell? ⟨w.heap.size, 0, none⟩ = some (.int .i64 3) ∧ wx.cell? ⟨w.heap.size, 1, none⟩ = some (.string k) ∧ wx.cell? ⟨w.heap.size, 2, none⟩ = some (.string t) ∧ wx.cell? ⟨w.heap.size, 3, none⟩ = some (.string v))
      (first | (with_reducible exact Mt.Fr.c4 (by assumption) 0 rfl) | (with_reducible exact Mt.Fr.c4 (Mt.Fr.new (by assumption) _ _) 0 rfl) | (with_reducible exact Mt.Fr.c4 (Mt.Fr.drew (Mt.Fr.new (by assumption) _ _)) 0 rfl))
      (first | (with_reducible refine (I _).mono ?_; rintro e w1 ⟨rfl, rfl⟩))
    all_goals
      go_wp2_with fail
      go_meet
      case rel => exact ⟨_, rfl, rfl, (Mt.Fr.new hp _ _).drew⟩
  case rest =>
    obtain ⟨g, rfl, rfl, hp⟩ := hcut
    clear HX c0 c1 c2 c3 hpd
    have HX := Lib.hid hp; clear hp
    obtain ⟨c0, c1, c2, c3⟩ := HX.out.c4 0 rfl
    have g1 := (HX.out.f4 2 rfl).1.2.1
    have g2 := (HX.out.f4 2 rfl).2
    have hpc := (HX.out.c4 2 rfl).2.1
    go_upto_region 6 with fail
    have H7 := HX.out.put 2 rfl 1 (.string K)
    replace HX := Lib.hid H7; clear H7 hpc c0 c1 c2 c3
    generalize World.setCell _ _ _ = w5 at *
    have g1 := (HX.out.f4 2 rfl).1.2.2.1
    have g2 := (HX.out.f4 2 rfl).2
    have hpc := (HX.out.at 2 rfl).cell 2
    have c2 := (HX.out.at 0 rfl).cell 2
    go_upto_region 8 with fail

    have c1 := (HX.out.at 2 rfl).cell 1
    have c2 := (HX.out.at 2 rfl).cell 2
    simp at c1 c2
    go_wp2_with fail
    refine (fields_3 _ _ _ _ _ (HX.out.at 2 rfl)).mono ?_; rintro e w3 ⟨rfl, hr, hb⟩
    have H4 := Lib.hid (And.intro (HX.out.later hb) (And.intro hr (HX.out.at 2 rfl).lt)); clear HX hr hb c1 c2
    rw [show (#[pf g 1, pf g 2] : Array Value).size = 2 from rfl]
    generalize w5.heap.size = r at *
    go_wp2_with fail
    go_loopw [47] (fun i W => ∃ (j : Nat), j ≤ 2 ∧ i = .int .i64 j ∧ Mt.Fr w (boxes3 w #[.int .i64 3, .string k, .string t, .string v] g #[.int .i64 3, .string K, .string t, .string v]) W ∧ Is W r 62 #[pf g 1, pf g 2] ∧ g < r) (fun i _ => 2 - (intOf i).toNat)
    case atStart => exact ⟨0, by omega, rfl, H4.out⟩
    case round =>
      clear H4
      obtain ⟨j, hj, rfl, h4⟩ := hrel
      have H4 := Lib.hid h4; clear h4
      by_cases hlt : j < 2
      · have hoff := Lib.hid (off_of g K t v j hlt)
        have hD := Lib.hid (HD.out j hlt)
        generalize two 1 2 j = oj at *
        generalize two K t j = sj at *
        have hc : _ := H4.out.2.1.cell j
        rw [hoff.out.1] at hc
        have hl := H4.out.2.1.lt
        have hbx := (H4.out.1.at 2 rfl).cell oj
        rw [hoff.out.2.1] at hbx
        have hl2 := (H4.out.1.at 2 rfl).lt
        go_wp2_with fail
        refine (hD.out _).mono ?_; rintro e w4 ⟨rfl, hb⟩
        replace H4 := Lib.hid (And.intro (H4.out.1.later hb) (And.intro (H4.out.2.1.kept (grow_below hb none) (by simp)) H4.out.2.2))
        clear hb hc hl hbx hl2
        have hf := (H4.out.1.at 2 rfl).frozen oj
        have hl2 := (H4.out.1.at 2 rfl).lt
        have hbx := (H4.out.1.at 2 rfl).cell oj
        rw [hoff.out.2.1] at hbx
        go_wp2_with fail
        refine ⟨⟨j + 1, by omega, by go_num, ?_⟩, ?_⟩
        · have h5 := H4.out.1.put 2 rfl oj (.string sj)
          rw [hoff.out.2.2] at h5
          exact ⟨h5, H4.out.2.1.other (by have := H4.out.2.2; simp; omega) _, H4.out.2.2⟩
        · simp [intOf]; omega
      · obtain rfl : j = 2 := by omega
        obtain ⟨c0, c1, c2, c3⟩ := H4.out.1.c4 2 rfl
        obtain ⟨⟨f0, f1, f2, f3⟩, hlz⟩ := H4.out.1.f4 1 rfl
        obtain ⟨d0, d1, d2, d3⟩ := H4.out.1.c4 1 rfl
        go_wp2_with fail
        have HZ := Lib.hid (H4.out.1.four 1 rfl (.int .i64 3) (.string K) (.string t) (.string v))
        obtain ⟨e0, e1, e2, e3⟩ := HZ.out.c4 1 rfl
        exact bodyPost_ret (v := .tuple #[.agg #[.int .i64 3, .string K, .string t, .string v], .bool true]) (by simp [results, Tryz.results18, go_sem, e0, e1, e2, e3]) rfl ⟨rfl, HZ.out.below⟩
theorem part_3cn (k t v f u K T : ByteArray) (H : ∀ w, Calls Tryz.prog 33 #[.agg #[.int .i64 3, .string k, .string t, .string v]] w fun e w' => e = .returned (.bool true) ∧ Below w.heap.size w w')
    (hC : ∀ j, j < 2 → ∀ w, Calls Tryz.prog 48 #[.string (two K T j)] w fun e w' => e = .returned (.string (two K T j)) ∧ Below w.heap.size w w')
    (hK : ∀ ts ty w, (Builtin.max_ ts ty #[.string k, .string f]).run Tryz.prog w = .ok (.string K) w)
    (hu : ¬ u.toList = []) (hu2 : u.toList.isEmpty = false) (hT : ∀ ts ty w, (Builtin.min_ ts ty #[.string t, .string u]).run Tryz.prog w = .ok (.string T) w) (hl : Op.bytesLess K.toList T.toList = false) (w : World) :
    Calls Tryz.prog 18 #[.agg #[.int .i64 3, .string k, .string t, .string v], .string f, .string u] w fun e w' => e = .returned (.tuple #[nil.val, .bool false]) ∧ Below w.heap.size w w' := by
  have HX := Lib.hid (((Mt.Fr.nil w).new 23 #[.int .i64 3, .string k, .string t, .string v]).new 23 nils)
  have I := isIn_any k f u
  generalize inR k f u = b0 at I
  skip
  have HD := Lib.hid hC
  clear hC
  rw [show (w.alloc (Obj.cells #[.int .i64 3, .string k, .string t, .string v] 23)).heap.size = w.heap.size + 1 by simp] at HX
  go_enter Tryz.func18, Tryz.ntmps18
  go_wp2_with fail
  refine (H _).mono ?_; rintro e w1 ⟨rfl, hb⟩
  replace HX := Lib.hid (HX.out.later hb); clear hb
  obtain ⟨c0, c1, c2, c3⟩ := HX.out.c4 0 rfl
  have hp := HX.out
  have hpd := Mt.Fr.drew hp
  go_upto_region 3 with fail
  go_cut [8, 9] from 10 (fun p q wx => ∃ g, p = .pointer (some ⟨g, 0, none⟩) ∧ q = .bool b0 ∧ Mt.Fr w (boxes3 w #[.int .i64 3, .string k, .string t, .string v] g #[.int .i64 3, .string k, .string t, .string v]) wx)
  case first =>
    go_region_held3 (fun wx => wx.cell? ⟨w.heap.size, 0, none⟩ = some (.int .i64 3) ∧ wx.cell? ⟨w.heap.size, 1, none⟩ = some (.string k) ∧ wx.cell? ⟨w.heap.size, 2, none⟩ = some (.string t) ∧ wx.cell? ⟨w.heap.size, 3, none⟩ = some (.string v))
      (first | (with_reducible exact Mt.Fr.c4 (by assumption) 0 rfl) | (with_reducible exact Mt.Fr.c4 (Mt.Fr.new (by assumption) _ _) 0 rfl) | (with_reducible exact Mt.Fr.c4 (Mt.Fr.drew (Mt.Fr.new (by assumption) _ _)) 0 rfl))
      (first | (with_reducible refine (I _).mono ?_; rintro e w1 ⟨rfl, rfl⟩))
    all_goals
      go_wp2_with fail
      go_meet
      case rel => exact ⟨_, rfl, rfl, (Mt.Fr.new hp _ _).drew⟩
  case rest =>
    obtain ⟨g, rfl, rfl, hp⟩ := hcut
    clear HX c0 c1 c2 c3 hpd
    have HX := Lib.hid hp; clear hp
    obtain ⟨c0, c1, c2, c3⟩ := HX.out.c4 0 rfl
    have g1 := (HX.out.f4 2 rfl).1.2.1
    have g2 := (HX.out.f4 2 rfl).2
    have hpc := (HX.out.c4 2 rfl).2.1
    go_upto_region 6 with fail
    have H7 := HX.out.put 2 rfl 1 (.string K)
    replace HX := Lib.hid H7; clear H7 hpc c0 c1 c2 c3
    generalize World.setCell _ _ _ = w5 at *
    have g1 := (HX.out.f4 2 rfl).1.2.2.1
    have g2 := (HX.out.f4 2 rfl).2
    have hpc := (HX.out.at 2 rfl).cell 2
    have c2 := (HX.out.at 0 rfl).cell 2
    go_upto_region 8 with fail
    have H7 := HX.out.put 2 rfl 2 (.string T)
    replace HX := Lib.hid H7; clear H7 hpc c2
    generalize World.setCell _ _ _ = w5 at *
    have c1 := (HX.out.at 2 rfl).cell 1
    have c2 := (HX.out.at 2 rfl).cell 2
    simp at c1 c2
    obtain ⟨⟨f0, f1, f2, f3⟩, hlz⟩ := HX.out.f4 1 rfl
    obtain ⟨d0, d1, d2, d3⟩ := HX.out.c4 1 rfl
    go_wp2_with fail
    have HZ := Lib.hid (HX.out.four 1 rfl (.int .i64 0) (.string ⟨#[]⟩) (.string ⟨#[]⟩) (.string ⟨#[]⟩))
    obtain ⟨e0, e1, e2, e3⟩ := HZ.out.c4 1 rfl
    exact bodyPost_ret (v := .tuple #[nil.val, .bool false]) (by simp [results, Tryz.results18, go_sem, e0, e1, e2, e3, nil, Msg.val]) rfl ⟨rfl, HZ.out.below⟩
theorem part_3cy (k t v f u K T : ByteArray) (H : ∀ w, Calls Tryz.prog 33 #[.agg #[.int .i64 3, .string k, .string t, .string v]] w fun e w' => e = .returned (.bool true) ∧ Below w.heap.size w w')
    (hC : ∀ j, j < 2 → ∀ w, Calls Tryz.prog 48 #[.string (two K T j)] w fun e w' => e = .returned (.string (two K T j)) ∧ Below w.heap.size w w')
    (hK : ∀ ts ty w, (Builtin.max_ ts ty #[.string k, .string f]).run Tryz.prog w = .ok (.string K) w)
    (hu : ¬ u.toList = []) (hu2 : u.toList.isEmpty = false) (hT : ∀ ts ty w, (Builtin.min_ ts ty #[.string t, .string u]).run Tryz.prog w = .ok (.string T) w) (hl : Op.bytesLess K.toList T.toList = true) (w : World) :
    Calls Tryz.prog 18 #[.agg #[.int .i64 3, .string k, .string t, .string v], .string f, .string u] w fun e w' => e = .returned (.tuple #[.agg #[.int .i64 3, .string K, .string T, .string v], .bool true]) ∧ Below w.heap.size w w' := by
  have HX := Lib.hid (((Mt.Fr.nil w).new 23 #[.int .i64 3, .string k, .string t, .string v]).new 23 nils)
  have I := isIn_any k f u
  generalize inR k f u = b0 at I
  skip
  have HD := Lib.hid hC
  clear hC
  rw [show (w.alloc (Obj.cells #[.int .i64 3, .string k, .string t, .string v] 23)).heap.size = w.heap.size + 1 by simp] at HX
  go_enter Tryz.func18, Tryz.ntmps18
  go_wp2_with fail
  refine (H _).mono ?_; rintro e w1 ⟨rfl, hb⟩
  replace HX := Lib.hid (HX.out.later hb); clear hb
  obtain ⟨c0, c1, c2, c3⟩ := HX.out.c4 0 rfl
  have hp := HX.out
  have hpd := Mt.Fr.drew hp
  go_upto_region 3 with fail
  go_cut [8, 9] from 10 (fun p q wx => ∃ g, p = .pointer (some ⟨g, 0, none⟩) ∧ q = .bool b0 ∧ Mt.Fr w (boxes3 w #[.int .i64 3, .string k, .string t, .string v] g #[.int .i64 3, .string k, .string t, .string v]) wx)
  case first =>
    go_region_held3 (fun wx => wx.cell? ⟨w.heap.size, 0, none⟩ = some (.int .i64 3) ∧ wx.cell? ⟨w.heap.size, 1, none⟩ = some (.string k) ∧ wx.cell? ⟨w.heap.size, 2, none⟩ = some (.string t) ∧ wx.cell? ⟨w.heap.size, 3, none⟩ = some (.string v))
      (first | (with_reducible exact Mt.Fr.c4 (by assumption) 0 rfl) | (with_reducible exact Mt.Fr.c4 (Mt.Fr.new (by assumption) _ _) 0 rfl) | (with_reducible exact Mt.Fr.c4 (Mt.Fr.drew (Mt.Fr.new (by assumption) _ _)) 0 rfl))
      (first | (with_reducible refine (I _).mono ?_; rintro e w1 ⟨rfl, rfl⟩))
    all_goals
      go_wp2_with fail
      go_meet
      case rel => exact ⟨_, rfl, rfl, (Mt.Fr.new hp _ _).drew⟩
  case rest =>
    obtain ⟨g, rfl, rfl, hp⟩ := hcut
    clear HX c0 c1 c2 c3 hpd
    have HX := Lib.hid hp; clear hp
    obtain ⟨c0, c1, c2, c3⟩ := HX.out.c4 0 rfl
    have g1 := (HX.out.f4 2 rfl).1.2.1
    have g2 := (HX.out.f4 2 rfl).2
    have hpc := (HX.out.c4 2 rfl).2.1
    go_upto_region 6 with fail
    have H7 := HX.out.put 2 rfl 1 (.string K)
    replace HX := Lib.hid H7; clear H7 hpc c0 c1 c2 c3
    generalize World.setCell _ _ _ = w5 at *
    have g1 := (HX.out.f4 2 rfl).1.2.2.1
    have g2 := (HX.out.f4 2 rfl).2
    have hpc := (HX.out.at 2 rfl).cell 2
    have c2 := (HX.out.at 0 rfl).cell 2
    go_upto_region 8 with fail
    have H7 := HX.out.put 2 rfl 2 (.string T)
    replace HX := Lib.hid H7; clear H7 hpc c2
    generalize World.setCell _ _ _ = w5 at *
    have c1 := (HX.out.at 2 rfl).cell 1
    have c2 := (HX.out.at 2 rfl).cell 2
    simp at c1 c2
    go_wp2_with fail
    refine (fields_3 _ _ _ _ _ (HX.out.at 2 rfl)).mono ?_; rintro e w3 ⟨rfl, hr, hb⟩
    have H4 := Lib.hid (And.intro (HX.out.later hb) (And.intro hr (HX.out.at 2 rfl).lt)); clear HX hr hb c1 c2
    rw [show (#[pf g 1, pf g 2] : Array Value).size = 2 from rfl]
    generalize w5.heap.size = r at *
    go_wp2_with fail
    go_loopw [47] (fun i W => ∃ (j : Nat), j ≤ 2 ∧ i = .int .i64 j ∧ Mt.Fr w (boxes3 w #[.int .i64 3, .string k, .string t, .string v] g #[.int .i64 3, .string K, .string T, .string v]) W ∧ Is W r 62 #[pf g 1, pf g 2] ∧ g < r) (fun i _ => 2 - (intOf i).toNat)
    case atStart => exact ⟨0, by omega, rfl, H4.out⟩
    case round =>
      clear H4
      obtain ⟨j, hj, rfl, h4⟩ := hrel
      have H4 := Lib.hid h4; clear h4
      by_cases hlt : j < 2
      · have hoff := Lib.hid (off_of g K T v j hlt)
        have hD := Lib.hid (HD.out j hlt)
        generalize two 1 2 j = oj at *
        generalize two K T j = sj at *
        have hc : _ := H4.out.2.1.cell j
        rw [hoff.out.1] at hc
        have hl := H4.out.2.1.lt
        have hbx := (H4.out.1.at 2 rfl).cell oj
        rw [hoff.out.2.1] at hbx
        have hl2 := (H4.out.1.at 2 rfl).lt
        go_wp2_with fail
        refine (hD.out _).mono ?_; rintro e w4 ⟨rfl, hb⟩
        replace H4 := Lib.hid (And.intro (H4.out.1.later hb) (And.intro (H4.out.2.1.kept (grow_below hb none) (by simp)) H4.out.2.2))
        clear hb hc hl hbx hl2
        have hf := (H4.out.1.at 2 rfl).frozen oj
        have hl2 := (H4.out.1.at 2 rfl).lt
        have hbx := (H4.out.1.at 2 rfl).cell oj
        rw [hoff.out.2.1] at hbx
        go_wp2_with fail
        refine ⟨⟨j + 1, by omega, by go_num, ?_⟩, ?_⟩
        · have h5 := H4.out.1.put 2 rfl oj (.string sj)
          rw [hoff.out.2.2] at h5
          exact ⟨h5, H4.out.2.1.other (by have := H4.out.2.2; simp; omega) _, H4.out.2.2⟩
        · simp [intOf]; omega
      · obtain rfl : j = 2 := by omega
        obtain ⟨c0, c1, c2, c3⟩ := H4.out.1.c4 2 rfl
        obtain ⟨⟨f0, f1, f2, f3⟩, hlz⟩ := H4.out.1.f4 1 rfl
        obtain ⟨d0, d1, d2, d3⟩ := H4.out.1.c4 1 rfl
        go_wp2_with fail
        have HZ := Lib.hid (H4.out.1.four 1 rfl (.int .i64 3) (.string K) (.string T) (.string v))
        obtain ⟨e0, e1, e2, e3⟩ := HZ.out.c4 1 rfl
        exact bodyPost_ret (v := .tuple #[.agg #[.int .i64 3, .string K, .string T, .string v], .bool true]) (by simp [results, Tryz.results18, go_sem, e0, e1, e2, e3]) rfl ⟨rfl, HZ.out.below⟩
theorem part_any (m : Msg) (f u : ByteArray) (hk : m.k.size ≤ 1099511627776) (ht : m.t.size ≤ 1099511627776) (hv : m.v.size ≤ 1099511627776) (hf : f.size ≤ 1099511627776) (hu' : u.size ≤ 1099511627776) (w : World) :
    Calls Tryz.prog 18 #[m.val, .string f, .string u] w fun e w' => e = .returned (.tuple #[((part m f u).getD nil).val, .bool (part m f u).isSome]) ∧ Below w.heap.size w w' := by
  have H := mayBe_any m hv
  have C2 : ∀ a b : ByteArray, a.size ≤ 1099511627776 → b.size ≤ 1099511627776 → ∀ i, i < 2 → ∀ w, Calls Tryz.prog 48 #[.string (two a b i)] w fun e w' => e = .returned (.string (two a b i)) ∧ Below w.heap.size w w' := fun a b ha hb i _ w => clone _ (by rcases i with _ | i <;> assumption) w
  have hM : ∀ a b : ByteArray, a.size ≤ 1099511627776 → b.size ≤ 1099511627776 → (mx a b).size ≤ 1099511627776 := fun a b ha hb => by unfold mx; split <;> assumption
  have hN : ∀ a b : ByteArray, a.size ≤ 1099511627776 → b.size ≤ 1099511627776 → (mn a b).size ≤ 1099511627776 := fun a b ha hb => by unfold mn; split <;> assumption
  unfold part
  cases hm : may m with
  | false =>
    rw [hm] at H
    rw [if_pos rfl]
    obtain ⟨o, k, t, v⟩ := m
    exact part_no o k t v f u H w
  | true =>
    rw [hm] at H
    rw [if_neg (by simp)]
    have ho := may_ops hm
    by_cases h3 : m.o = 3
    · rw [if_pos h3]
      obtain ⟨o, k, t, v⟩ := m
      dsimp only at h3 hk ht hv
      subst h3
      unfold cl
      dsimp only
      have hK := run_max_str Tryz.prog k f
      have hks := hM k f hk hf
      generalize mx k f = K at *
      by_cases hu : u.size = 0
      · rw [if_pos hu]
        have e := empty_of_size hu
        cases hl : lt K t with
        | false => rw [if_neg (by simp)]; exact part_3on k t v f u K t H (C2 _ _ hks ht) (fun ts ty w => hK ts ty w) e rfl hl w
        | true => rw [if_pos rfl]; exact part_3oy k t v f u K t H (C2 _ _ hks ht) (fun ts ty w => hK ts ty w) e rfl hl w
      · rw [if_neg hu]
        have h3 : ¬ u.toList = [] := fun h => hu (list_nil.1 h)
        have h4 : u.toList.isEmpty = false := by rw [isEmpty_size, decide_eq_false hu]
        have hT := run_min_str Tryz.prog t u
        have hts := hN t u ht hu'
        generalize mn t u = T at *
        cases hl : lt K T with
        | false => rw [if_neg (by simp)]; exact part_3cn k t v f u K T H (C2 _ _ hks hts) (fun ts ty w => hK ts ty w) h3 h4 (fun ts ty w => hT ts ty w) hl w
        | true => rw [if_pos rfl]; exact part_3cy k t v f u K T H (C2 _ _ hks hts) (fun ts ty w => hK ts ty w) h3 h4 (fun ts ty w => hT ts ty w) hl w
    · rw [if_neg h3]
      obtain ⟨o, k, t, v⟩ := m
      dsimp only at h3 ho hk ht hv ⊢
      have h3' : (o == 3) = false := by simpa using h3
      cases hi : inR k f u with
      | false => rw [if_neg (by simp)]; exact part_out o h3' k t v f u H hi w
      | true =>
        rw [if_pos rfl]
        rcases ho with rfl | rfl | rfl | rfl
        · exact part_in 1 h3' k t v f u H hi 2 (by decide) (off2 3) (two k v) (C2 k v hk hv) (fun g => #[pf g 1, pf g 3]) (fun _ => rfl) (fun g w h => fields_1 g _ _ _ w h)
            (fun g i hi => by rcases i with _ | _ | i; rfl; rfl; omega) (fun i hi => by rcases i with _ | _ | i; rfl; rfl; omega) (fun i hi => by rcases i with _ | _ | i; rfl; rfl; omega) w
        · exact part_in 4 h3' k t v f u H hi 2 (by decide) (off2 3) (two k v) (C2 k v hk hv) (fun g => #[pf g 1, pf g 3]) (fun _ => rfl) (fun g w h => fields_4 g _ _ _ w h)
            (fun g i hi => by rcases i with _ | _ | i; rfl; rfl; omega) (fun i hi => by rcases i with _ | _ | i; rfl; rfl; omega) (fun i hi => by rcases i with _ | _ | i; rfl; rfl; omega) w
        · exact part_in 2 h3' k t v f u H hi 1 (by decide) (off2 3) (two k v) (fun i hi => C2 k v hk hv i (by omega)) (fun g => #[pf g 1]) (fun _ => rfl) (fun g w h => fields_2 g _ _ _ w h)
            (fun g i hi => by rcases i with _ | i; rfl; omega) (fun i hi => by rcases i with _ | i; rfl; omega) (fun i hi => by rcases i with _ | i; rfl; omega) w
        · exact absurd rfl h3
end Go.Proofs.YthledgkjfjdjoaaGreat.Ms
