/- drop: what lies behind stays. Conditions: none. -/
import Derived.Test.YtnpjbddannkgfaaSpM
import Derived.Test.YtnpjbddannkgfaaSpO
import Derived.Test.YtnpjbddannkgfaaSpJ
import Derived.Shelf.RegionOpen
namespace Go.Proofs.Ytnpjbddannkgfaa
open Go.ChangeShapes Go.WideShapes Go.RowKit Go.Spans Go.Shelf Go.Rounds
attribute [local go_sem] Oper.semAt_some
set_option maxRecDepth 100000
/-- A post that lets no panic through. -/
def calm (Q : Exit → Act → World → Prop) : Exit → Act → World → Prop
  | .panic _, _, _ => False
  | e, a, w => Q e a w
theorem calm_le {Q : Exit → Act → World → Prop} (e : Exit) (a : Act) (w : World) (h : calm Q e a w) : Q e a w := by
  cases e <;> first | exact h | exact h.elim
theorem calm_normal {Q : Exit → Act → World → Prop} {a : Act} {w : World} (h : Q .normal a w) : calm Q .normal a w := h
theorem below_drew {B : Nat} {a b : World} (h : Below B a b) : Below B a b.drew := h.trans ⟨rfl, rfl, rfl, Nat.le_refl _, fun _ _ => rfl⟩
theorem Kp.grow {w V V' : World} {X : List Nat} {row : Option Nat} (h : Kp w V X) (hg : V.grownBy V' row) (hr : ∀ r, row = some r → w.heap.size ≤ r) : Kp w V' X :=
  h.trans (Y := row.toList) (Kp.of_grown hg) (fun y hy => .inr (hr y (by simpa using hy)))
theorem KeepsFrom.of_kp {B : Nat} {V V' : World} {X : List Nat} (h : Kp V V' X) (hX : ∀ x ∈ X, x < B ∨ ∃ t cs, Is V x t cs) : KeepsFrom B V V' :=
  ⟨h.size, fun k o hB hk ho => (h.block k (Array.getElem?_eq_some_iff.1 hk).1 (fun hm => by
    rcases hX k hm with e | ⟨t, cs, hi⟩
    · omega
    · unfold Is at hi
      rw [hk] at hi
      injection hi with hi
      subst hi
      cases ho)).trans hk⟩
theorem dropL_succ {xs : List Sp} {j : Nat} (h : j < xs.length) (k : Nat) : dropL k (xs.take (j + 1)) = dropL k (xs.take j) ++ (cutOff k (xs.getD j (0, 0))).toList := by
  rw [tell_at h, List.take_succ_eq_append_getElem h, dropL, List.filterMap_append]
  cases hc : cutOff k xs[j] <;> simp [dropL, hc]
theorem dropL_len (xs : List Sp) (k : Nat) : (dropL k xs).length ≤ xs.length := List.length_filterMap_le _ _
/-- Between two rounds of drop: what was told stands at the row's beginning, what comes where it stood. -/
def DrI (w : World) (S g k cap : Nat) (xs : List Sp) (j : Nat) (V : World) : Prop :=
  Kp w V [g] ∧ Is V w.heap.size 3 #[.int .i64 k] ∧ Is V (w.heap.size + 1 + 1) 57 #[.pointer (some ⟨S, 0, none⟩)] ∧
    Is V (w.heap.size + 1) 97 #[.slice (some ⟨g, 0, none⟩) (dropL k (xs.take j)).length cap] ∧
    ∃ cur, Is V g 101 cur ∧ cur.size = cap * 2 ∧ cur.toList.take ((dropL k (xs.take j)).length * 2) = ecs (dropL k (xs.take j)) ∧
      ∀ i, i < xs.length → j ≤ i → cur[i * 2]? = some (.int .i64 (xs.getD i (0, 0)).1) ∧ cur[i * 2 + 1]? = some (.int .i64 (xs.getD i (0, 0)).2)
theorem DrI.own (w : World) (S g k cap : Nat) (xs : List Sp) {B : Nat} (hB : w.heap.size ≤ B) : OwnFrom B (DrI w S g k cap xs) := by
  rintro j V V' row ⟨h1, h2, h3, h4, cur, h5, h6⟩ hg hr
  exact ⟨h1.grow hg (fun r e => by have := (hr r e).1; omega), h2.own hg hr, h3.own hg hr, h4.own hg hr, cur, h5.own hg hr, h6⟩
set_option maxHeartbeats 4000000 in
theorem drop_c {w : World} {S n : Nat} {v : Value} {xs : List Sp} (h : St w S v n xs) (hne : xs ≠ []) (at_ : Nat) (hat : at_ ≤ 4096) :
    Calls Try.prog 66 #[.pointer (some ⟨S, 0, none⟩), .int .i64 at_] w fun e w' => (∃ r, e = .returned r) ∧ ∃ v', To w w' S v v' n (dropL at_ xs) := by
  rcases h.row.cases with ⟨rfl, rfl⟩ | ⟨g, cap, cur, rfl, hb, hg, h4, h5, h6, h7⟩
  · exact absurd rfl hne
  have hhi := h.hi
  have hlen := len_le h.ok
  have hF31 : Fence.wide.fn 67 := trivial
  have hF39 : Fence.wide.fn 70 := trivial
  have s1 : ∀ o, (w.alloc o).cell? ⟨S, 1, none⟩ = some (.slice (some ⟨g, 0, none⟩) xs.length cap) := fun o => by
    have := (h.alloc o).one.cell 1
    simpa using this
  refine callsIn_wide (n := 5).1 (callsIn_of_wp_marks Try.func66 rfl trivial ?_ rfl)
  simp only [Try.ntmps66, List.size_toArray, List.length_cons, List.length_nil, Nat.reduceAdd, Nat.reduceSub, Array.replicate_succ, Array.replicate_zero, List.push_toArray, List.append_toArray, List.nil_append, List.cons_append]
  gi_wp2_with (gi_at_call 67; refine (callsIn_wide.2 (each_c _ _)).mono ?_; rintro e w' ⟨rfl, rfl⟩)
  have hgl := hg.lt
  have hSl := h.one.lt
  have hSg : S ≠ g := fun e => h.ne (by simp [ob, Value.ownBlock, e])
  have hsz : (((w.alloc (.cells #[.int .i64 at_] 3)).alloc (.cells #[.slice (some ⟨g, 0, none⟩) 0 cap] 97)).alloc (.cells #[.pointer (some ⟨S, 0, none⟩)] 57)).heap.size = w.heap.size + 3 := by simp
  have hI0 : DrI w S g at_ cap xs 0 (((w.alloc (.cells #[.int .i64 at_] 3)).alloc (.cells #[.slice (some ⟨g, 0, none⟩) 0 cap] 97)).alloc (.cells #[.pointer (some ⟨S, 0, none⟩)] 57)) := by
    have i0 := Is.new w 3 #[.int .i64 at_]
    have i1 := Is.new (w.alloc (.cells #[.int .i64 at_] 3)) 97 #[.slice (some ⟨g, 0, none⟩) 0 cap]
    have i2 := Is.new ((w.alloc (.cells #[.int .i64 at_] 3)).alloc (.cells #[.slice (some ⟨g, 0, none⟩) 0 cap] 97)) 57 #[.pointer (some ⟨S, 0, none⟩)]
    simp only [World.size_alloc] at i1 i2
    refine ⟨(((Kp.refl w [g]).alloc _).alloc _).alloc _, (i0.alloc _).alloc _, i2, i1.alloc _, cur, ((hg.alloc _).alloc _).alloc _, h6, by simp [dropL, ecs], fun i hi _ => ?_⟩
    rw [tell_at hi, Nat.mul_comm i 2]
    obtain ⟨e1, e2⟩ := ecs_at xs i hi
    exact ⟨cur_get h7 e1, cur_get h7 e2⟩
  generalize (((w.alloc (.cells #[.int .i64 at_] 3)).alloc (.cells #[.slice (some ⟨g, 0, none⟩) 0 cap] 97)).alloc (.cells #[.pointer (some ⟨S, 0, none⟩)] 57)) = w0 at hsz hI0 ⊢
  have hRd : ∀ j V, DrI w S g at_ cap xs j V → Rd (w.heap.size + 1 + 1) S g (.slice (some ⟨g, 0, none⟩) xs.length cap) xs j V := fun j V hs => by
    obtain ⟨k1, k2, k3, k4, c, k5, k6, k7, k8⟩ := hs
    have e1 := k3.cell 0
    have e2 := (k1.is h.one (by simp; omega)).cell 1
    refine ⟨by simpa using e1, by simpa using e2, fun hj => ?_⟩
    rw [k5.cell, k5.cell]
    exact k8 j hj (Nat.le_refl _)
  have hends : ∀ j, j < xs.length → (xs.getD j (0, 0)).1 + (xs.getD j (0, 0)).2 ≤ 4096 := fun j hj => by
    have := h.ok.hi xs[j] (List.getElem_mem hj)
    rw [tell_at hj]
    simp only [en] at this
    omega
  refine loop rfl (by omega) (gf := 76) (lb := #[.pointer (some ⟨w.heap.size + 1 + 1, 0, none⟩)]) rfl trivial (enters_of Try.func76 (by kernel_rfl) rfl) (tells_set _ _ S g _ xs (.inl ⟨cap, rfl⟩) (by omega)) (fun _ => rfl)
    (DrI w S g at_ cap xs) (fun _ _ _ => False) (DrI.own w S g at_ cap xs (by omega)) (fun _ _ _ _ _ hs _ _ => hs) hRd hI0
    (fun j a' V => ∃ Bx, w.heap.size + 2 < Bx ∧ DrI w S g at_ cap xs j V ∧ Is V Bx 101 #[.int .i64 (xs.getD j (0, 0)).1, .int .i64 (xs.getD j (0, 0)).2] ∧
      a' = { tmps := #[.pointer (some ⟨S, 0, none⟩), .int .i64 at_, undef, .pointer (some ⟨w.heap.size, 0, none⟩), .pointer (some ⟨w.heap.size + 1, 0, none⟩), .pointer (some ⟨Bx, 0, none⟩), undef, .pointer (some ⟨S, 0, none⟩), .pointer (some ⟨S, 0, none⟩), .pointer (some ⟨S, 1, none⟩), .slice (some ⟨g, 0, none⟩) xs.length cap,
        .slice (some ⟨g, 0, none⟩) 0 cap, .pointer (some ⟨S, 0, none⟩), .func (.func 76) #[] #[.pointer (some ⟨w.heap.size + 1 + 1, 0, none⟩)], .agg #[.int .i64 (xs.getD j (0, 0)).1, .int .i64 (xs.getD j (0, 0)).2],
        undef, undef, undef, undef, undef, undef, undef, undef, undef, undef, undef, undef, undef, undef, undef, undef, undef, undef, undef, undef, undef, undef, undef, undef, undef, undef, undef, undef], defers := [] })
    (fun j a' s V V' row hs hgr hr => by
      obtain ⟨Bx, q1, hs, q3, q4⟩ := hs
      exact ⟨Bx, q1, DrI.own w S g at_ cap xs (by omega) j V V' row hs hgr hr, q3.own hgr hr, q4⟩) ?assign ?body ?done ?stop
  case assign =>
    intro l j V K hj hs hK
    simp only [tell]
    have hs' := hs
    obtain ⟨k1, k2, k3, k4, c, k5, k6, k7, k8⟩ := hs
    have hlt := k3.lt
    generalize hx1 : (xs.getD j (0, 0)).1 = x1 at hK ⊢
    generalize hx2 : (xs.getD j (0, 0)).2 = x2 at hK ⊢
    gi_wp2
    exact hK _ _ ((KeepsOthers.alloc _ _).from _) ⟨V.heap.size, by omega, DrI.own w S g at_ cap xs (Nat.le_refl _) j V _ none hs' (World.grownBy_alloc V _ none) (fun r e => by cases e), Is.new _ _ _, rfl⟩
  case body =>
    rintro l j a' V hl hj ⟨Bx, hBx, ⟨k1, k2, k3, k4, c, k5, k6, k7, k8⟩, hx, rfl⟩
    have hds := dropL_succ hj at_
    have hdl := dropL_len (xs.take j) at_
    have hjl : (xs.take j).length = j := by rw [List.length_take]; omega
    rw [hjl] at hdl
    have hfit := hends j hj
    have hk8 : ∀ i, i < xs.length → j + 1 ≤ i → c[i * 2]? = some (.int .i64 (xs.getD i (0, 0)).1) ∧ c[i * 2 + 1]? = some (.int .i64 (xs.getD i (0, 0)).2) := fun i hi hji => k8 i hi (by omega)
    have hds1 : max (xs.getD j (0, 0)).1 at_ < (xs.getD j (0, 0)).1 + (xs.getD j (0, 0)).2 → dropL at_ (xs.take (j + 1)) = dropL at_ (xs.take j) ++ [(max (xs.getD j (0, 0)).1 at_, (xs.getD j (0, 0)).1 + (xs.getD j (0, 0)).2 - max (xs.getD j (0, 0)).1 at_)] := fun hl => by
      rw [hds, cutOff, if_pos (show max (xs.getD j (0, 0)).1 at_ < en (xs.getD j (0, 0)) from hl)]
      rfl
    have hds0 : ¬ max (xs.getD j (0, 0)).1 at_ < (xs.getD j (0, 0)).1 + (xs.getD j (0, 0)).2 → dropL at_ (xs.take (j + 1)) = dropL at_ (xs.take j) := fun hl => by
      rw [hds, cutOff, if_neg (show ¬ max (xs.getD j (0, 0)).1 at_ < en (xs.getD j (0, 0)) from hl)]
      simp
    clear hds k8
    generalize (xs.getD j (0, 0)).1 = a at *
    generalize (xs.getD j (0, 0)).2 = m at *
    generalize dropL at_ (xs.take j) = d at *
    have hf2 : max (a : Int) (at_ : Int) = ((max a at_ : Nat) : Int) := by omega
    have hf3 : max a at_ ≤ 4096 := by omega
    generalize max a at_ = f at *
    have hfa : ∀ W, Below V.heap.size V W → Is W w.heap.size 3 #[.int .i64 at_] ∧ Is W (w.heap.size + 1 + 1) 57 #[.pointer (some ⟨S, 0, none⟩)] ∧ Is W (w.heap.size + 1) 97 #[.slice (some ⟨g, 0, none⟩) d.length cap] ∧ Is W g 101 c ∧ Is W Bx 101 #[.int .i64 a, .int .i64 m] ∧ Kp w W [g] ∧ KeepsFrom w0.heap.size V W := fun W hW =>
      ⟨(Kp.of_below hW []).is k2 (by simp), (Kp.of_below hW []).is k3 (by simp), (Kp.of_below hW []).is k4 (by simp), (Kp.of_below hW []).is k5 (by simp), (Kp.of_below hW []).is hx (by simp), k1.trans (Kp.of_below hW []) (by simp), KeepsFrom.of_kp (Kp.of_below hW []) (by simp)⟩
    have x0 := hx.cell 0
    have x1 := hx.cell 1
    have y0 := k2.cell 0
    have y1 := k4.cell 0
    simp at x0 x1 y0 y1
    have hb0 := Below.refl V.heap.size V
    have hE := fun (W : World) (hW : Below V.heap.size V W) => CallsIn.inRound l (callsIn_wide (n := 5 - 1 - 1 - 1).2 (end_b a m V W hfit hW))
    by_cases hlt : f < a + m
    · have hd1 := hds1 hlt
      have hltz : (f : Int) < ((a + m : Nat) : Int) := by omega
      clear k1 k2 k3 k4 k5 hx
      gi_wp2_with (gi_at_call 70; refine (hE _ hb0).mono ?_; rintro e w1 ⟨rfl, hb1⟩; obtain ⟨p1, p2, p3, p4, p5, p6, p7⟩ := hfa w1 hb1)
      have hrc : d.length + 1 ≤ cap := by omega
      have hB1g : w.heap.size + 1 ≠ g := by omega
      obtain ⟨u0, hu0⟩ : ∃ u0, c[d.length * 2]? = some u0 := ⟨_, Array.getElem?_eq_getElem (by omega)⟩
      obtain ⟨u1, hu1⟩ : ∃ u1, c[d.length * 2 + 1]? = some u1 := ⟨_, Array.getElem?_eq_getElem (by omega)⟩
      have hcl : ∀ W, Below V.heap.size V W → W.cell? ⟨w.heap.size + 1, 0, none⟩ = some (.slice (some ⟨g, 0, none⟩) d.length cap) ∧ W.frozen? ⟨w.heap.size + 1, 0, none⟩ = false ∧ W.cell? ⟨g, d.length * 2, none⟩ = some u0 ∧ W.cell? ⟨g, d.length * 2 + 1, none⟩ = some u1 ∧ W.frozen? ⟨g, d.length * 2, none⟩ = false ∧ W.frozen? ⟨g, d.length * 2 + 1, none⟩ = false ∧ W.cell? ⟨Bx, 0, none⟩ = some (.int .i64 a) ∧ W.cell? ⟨Bx, 1, none⟩ = some (.int .i64 m) := fun W hW => by
        obtain ⟨p1, p2, p3, p4, p5, p6, p7⟩ := hfa W hW
        have b1 := p3.cell 0
        have b5 := p5.cell 0
        have b6 := p5.cell 1
        simp at b1 b5 b6
        exact ⟨b1, p3.frozen 0, (p4.cell _).trans hu0, (p4.cell _).trans hu1, p4.frozen _, p4.frozen _, b5, b6⟩
      obtain ⟨z1, z2, z3, z4, z5, z6, z7, z8⟩ := hcl w1 hb1
      have mixed : Try.prog.follows .mixedOrders = true := by kernel_rfl
      have hsub : IntKind.i64.wrap (((a : Int) + (m : Int)) - (f : Int)) = (a : Int) + (m : Int) - (f : Int) := wrap_small (by omega) (by omega)
      clear p1 p2 p3 p4 p5 p6 p7 y0 y1 x0 x1
      have hrm : ∀ W, Below V.heap.size V W → ∀ y : Int, y = (a : Int) + (m : Int) - (f : Int) → ∀ ty, (Builtin.append_ #[97, 97] ty #[.slice (some ⟨g, 0, none⟩) d.length cap, .slice (some ⟨W.heap.size, 0, none⟩) 1 1]).run Try.prog (W.alloc (.cells #[.int .i64 f, .int .i64 y] 101)) =
          .ok (.slice (some ⟨g, 0, none⟩) (d.length + 1) cap) ((W.alloc (.cells #[.int .i64 f, .int .i64 y] 101)).setRow g (spl c (d.length * 2) [.int .i64 f, .int .i64 y])) := fun W hW y _ ty =>
        room2 ((hfa W hW).2.2.2.1.alloc _) d.length cap ⟨W.heap.size, 0, none⟩ 1 (.int .i64 f) (.int .i64 y) (new_cells W _ _) (by simp [Value.oneCell']) hrc k6 ty
      have hbx : ∀ W, Below V.heap.size V W → ∀ o c', ((W.alloc o).setRow g c').cell? ⟨w.heap.size + 1, 0, none⟩ = some (.slice (some ⟨g, 0, none⟩) d.length cap) ∧ ((W.alloc o).setRow g c').frozen? ⟨w.heap.size + 1, 0, none⟩ = false := fun W hW o c' => by
        have := ((hfa W hW).2.2.1.alloc o).offrow (cs' := c') hB1g
        have h0 := this.cell 0
        simp at h0
        exact ⟨h0, this.frozen 0⟩
      have hfin : ∀ W, Below V.heap.size V W → ∀ y : Int, y = (a : Int) + (m : Int) - (f : Int) → KeepsFrom w0.heap.size V (((W.alloc (.cells #[.int .i64 f, .int .i64 y] 101)).setRow g (spl c (d.length * 2) [.int .i64 f, .int .i64 y])).setCell ⟨w.heap.size + 1, 0, none⟩ (.slice (some ⟨g, 0, none⟩) (d.length + 1) cap)) ∧
          DrI w S g at_ cap xs (j + 1) (((W.alloc (.cells #[.int .i64 f, .int .i64 y] 101)).setRow g (spl c (d.length * 2) [.int .i64 f, .int .i64 y])).setCell ⟨w.heap.size + 1, 0, none⟩ (.slice (some ⟨g, 0, none⟩) (d.length + 1) cap)) := fun W hW y hy => by
        obtain ⟨p1, p2, p3, p4, p5, p6, p7⟩ := hfa W hW
        have hyy : y = ((a + m - f : Nat) : Int) := by omega
        subst hyy
        have q4 := p4.alloc (.cells #[.int .i64 f, .int .i64 ((a + m - f : Nat) : Int)] 101)
        refine ⟨((p7.trans ((KeepsOthers.alloc _ _).from _)).trans (KeepsFrom.of_kp ((Kp.refl _ [g]).row g _ (.inl (by simp))) (fun x hx => .inr ⟨101, c, by simp at hx; rw [hx]; exact q4⟩))).trans ((KeepsOthers.setCell _ _ _).from _), ?_⟩
        unfold DrI
        rw [hd1, List.length_append]
        refine ⟨((p6.alloc _).row g _ (.inl (by simp))).put _ _ (.inr (by simp)), ((p1.alloc _).offrow (by omega)).other (by simp) _, ((p2.alloc _).offrow (by omega)).other (by simp) _, ((p3.alloc _).offrow hB1g).put 0 _, spl c (d.length * 2) [.int .i64 f, .int .i64 ((a + m - f : Nat) : Int)], q4.row.other (by simp; omega) _, ?_, ?_, ?_⟩
        · rw [spl_size (by rw [k6]; simp; omega), k6]
        · have := spl_take (cur := c) (o := d.length * 2) (cs := [.int .i64 f, .int .i64 ((a + m - f : Nat) : Int)]) (by rw [k6]; omega)
          rw [ec_len (f, a + m - f), k7] at this
          rw [ecs_append, show (d.length + [(f, a + m - f)].length) * 2 = d.length * 2 + 2 by simp; omega]
          exact this
        · intro i hi hji
          rw [spl_high (by rw [k6]; omega) (by simp; omega), spl_high (by rw [k6]; omega) (by simp; omega)]
          exact hk8 i hi hji
      refine wpIn_region_any mixed ?_
      refine wpAnyIn_out l rfl (by intro o ho; simp only [List.mem_cons, List.not_mem_nil, or_false] at ho; rcases ho with rfl | rfl | rfl | rfl | rfl | rfl | rfl | rfl | rfl | rfl <;> intro c hc <;> cases hc) _ _ _ _ ?_
      change wpAnyIn _ _ _ _ _ _ _ _ _ (World.drew _)
      -- REGION
      refine wpAnyIn_take (i := 1) (v := ?_) rfl rfl (by kernel_rfl) (by kernel_rfl) (by kernel_rfl) (fun _ _ _ h => h) ⟨Or.inl ⟨by rfl, ?_⟩, fun _ => rfl⟩ ?_
      rotate_left 1
      · intro wq; first | (go_simp; done) | (go_simp; with_reducible rfl)
      refine wpAnyIn_take (i := 4) (v := ?_) rfl rfl (by kernel_rfl) (by kernel_rfl) (by kernel_rfl) (fun _ _ _ h => h) ⟨Or.inl ⟨by rfl, ?_⟩, fun _ => rfl⟩ ?_
      rotate_left 1
      · intro wq; first | (go_simp; done) | (go_simp; with_reducible rfl)
      refine wpAnyIn_ready (rs := [0, 2]) (by kernel_rfl) (by simp) ?_
      refine AllReadyIn.cons rfl (fun K hK => ?_) (AllReadyIn.cons rfl (fun K hK => ?_) AllReadyIn.nil)
      · go_simp
        refine hK _ _ ?_; clear hK K
        refine wpAnyIn_ready (rs := [2]) (by kernel_rfl) (by simp) ?_
        refine AllReadyIn.cons rfl (fun K hK => ?_) AllReadyIn.nil
        go_simp
        refine hK _ _ ?_; clear hK K
        refine wpAnyIn_ready (rs := [3]) (by kernel_rfl) (by simp) ?_
        refine AllReadyIn.cons rfl (fun K hK => ?_) AllReadyIn.nil
        go_simp
        gi_wp2_with (gi_at_call 70; refine (hE _ (below_drew hb1)).mono ?_; rintro e w2 ⟨rfl, hb2⟩; obtain ⟨t1, t2, t3, t4, t5, t6, t7, t8⟩ := hcl w2 hb2; have ta := fun o => (hcl (w2.alloc o) (hb2.alloc hb2.size o)).1)
        refine wpAnyIn_take (i := 5) (v := ?_) rfl rfl (by kernel_rfl) (by kernel_rfl) (by kernel_rfl) (fun _ _ _ h => h) ⟨Or.inl ⟨by rfl, ?_⟩, fun _ => rfl⟩ ?_
        rotate_left 1
        · intro wq; first | (go_simp; done) | (go_simp; with_reducible rfl)
        refine wpAnyIn_take (i := 6) (v := ?_) rfl rfl (by kernel_rfl) (by kernel_rfl) (by kernel_rfl) (fun _ _ _ h => h) ⟨Or.inl ⟨by rfl, ?_⟩, fun _ => rfl⟩ ?_
        rotate_left 1
        · intro wq; first | (go_simp; done) | (go_simp; with_reducible rfl)
        refine wpAnyIn_ready (rs := [7]) (by kernel_rfl) (by simp) ?_
        refine AllReadyIn.cons rfl (fun K hK => ?_) AllReadyIn.nil
        go_simp
        refine hK _ _ ?_; clear hK K
        refine wpAnyIn_ready (rs := [8]) (by kernel_rfl) (by simp) ?_
        refine AllReadyIn.cons rfl (fun K hK => ?_) AllReadyIn.nil
        refine stepIn_append_run rfl _ _ 97 rfl _ _ (by simp [Act.eval]) (by simp [Act.eval]) (hrm w2 hb2 _ rfl _) ?_
        refine hK _ _ ?_; clear hK K
        have c9 := hbx w2 hb2
        refine wpAnyIn_ready (rs := [9]) (by kernel_rfl) (by simp) ?_
        refine AllReadyIn.cons rfl (fun K hK => ?_) AllReadyIn.nil
        go_simp
        refine hK _ _ ?_; clear hK K
        refine wpAnyIn_done (by kernel_rfl) ?_ _
        exact hfin w2 hb2 _ rfl
      · go_simp
        refine hK _ _ ?_; clear hK K
        refine wpAnyIn_ready (rs := [0, 3]) (by kernel_rfl) (by simp) ?_
        refine AllReadyIn.cons rfl (fun K hK => ?_) (AllReadyIn.cons rfl (fun K hK => ?_) AllReadyIn.nil)
        · go_simp
          refine hK _ _ ?_; clear hK K
          refine wpAnyIn_ready (rs := [3]) (by kernel_rfl) (by simp) ?_
          refine AllReadyIn.cons rfl (fun K hK => ?_) AllReadyIn.nil
          go_simp
          gi_wp2_with (gi_at_call 70; refine (hE _ (below_drew hb1)).mono ?_; rintro e w2 ⟨rfl, hb2⟩; obtain ⟨t1, t2, t3, t4, t5, t6, t7, t8⟩ := hcl w2 hb2; have ta := fun o => (hcl (w2.alloc o) (hb2.alloc hb2.size o)).1)
          refine wpAnyIn_take (i := 5) (v := ?_) rfl rfl (by kernel_rfl) (by kernel_rfl) (by kernel_rfl) (fun _ _ _ h => h) ⟨Or.inl ⟨by rfl, ?_⟩, fun _ => rfl⟩ ?_
          rotate_left 1
          · intro wq; first | (go_simp; done) | (go_simp; with_reducible rfl)
          refine wpAnyIn_take (i := 6) (v := ?_) rfl rfl (by kernel_rfl) (by kernel_rfl) (by kernel_rfl) (fun _ _ _ h => h) ⟨Or.inl ⟨by rfl, ?_⟩, fun _ => rfl⟩ ?_
          rotate_left 1
          · intro wq; first | (go_simp; done) | (go_simp; with_reducible rfl)
          refine wpAnyIn_ready (rs := [7]) (by kernel_rfl) (by simp) ?_
          refine AllReadyIn.cons rfl (fun K hK => ?_) AllReadyIn.nil
          go_simp
          refine hK _ _ ?_; clear hK K
          refine wpAnyIn_ready (rs := [8]) (by kernel_rfl) (by simp) ?_
          refine AllReadyIn.cons rfl (fun K hK => ?_) AllReadyIn.nil
          refine stepIn_append_run rfl _ _ 97 rfl _ _ (by simp [Act.eval]) (by simp [Act.eval]) (hrm w2 hb2 _ rfl _) ?_
          refine hK _ _ ?_; clear hK K
          have c9 := hbx w2 hb2
          refine wpAnyIn_ready (rs := [9]) (by kernel_rfl) (by simp) ?_
          refine AllReadyIn.cons rfl (fun K hK => ?_) AllReadyIn.nil
          go_simp
          refine hK _ _ ?_; clear hK K
          refine wpAnyIn_done (by kernel_rfl) ?_ _
          exact hfin w2 hb2 _ rfl
        · go_simp
          gi_wp2_with (gi_at_call 70; refine (hE _ (below_drew hb1)).mono ?_; rintro e w2 ⟨rfl, hb2⟩; obtain ⟨t1, t2, t3, t4, t5, t6, t7, t8⟩ := hcl w2 hb2; have ta := fun o => (hcl (w2.alloc o) (hb2.alloc hb2.size o)).1)
          refine wpAnyIn_take (i := 5) (v := ?_) rfl rfl (by kernel_rfl) (by kernel_rfl) (by kernel_rfl) (fun _ _ _ h => h) ⟨Or.inl ⟨by rfl, ?_⟩, fun _ => rfl⟩ ?_
          rotate_left 1
          · intro wq; first | (go_simp; done) | (go_simp; with_reducible rfl)
          refine wpAnyIn_take (i := 6) (v := ?_) rfl rfl (by kernel_rfl) (by kernel_rfl) (by kernel_rfl) (fun _ _ _ h => h) ⟨Or.inl ⟨by rfl, ?_⟩, fun _ => rfl⟩ ?_
          rotate_left 1
          · intro wq; first | (go_simp; done) | (go_simp; with_reducible rfl)
          refine wpAnyIn_ready (rs := [0, 7]) (by kernel_rfl) (by simp) ?_
          refine AllReadyIn.cons rfl (fun K hK => ?_) (AllReadyIn.cons rfl (fun K hK => ?_) AllReadyIn.nil)
          · go_simp
            refine hK _ _ ?_; clear hK K
            refine wpAnyIn_ready (rs := [7]) (by kernel_rfl) (by simp) ?_
            refine AllReadyIn.cons rfl (fun K hK => ?_) AllReadyIn.nil
            go_simp
            refine hK _ _ ?_; clear hK K
            refine wpAnyIn_ready (rs := [8]) (by kernel_rfl) (by simp) ?_
            refine AllReadyIn.cons rfl (fun K hK => ?_) AllReadyIn.nil
            refine stepIn_append_run rfl _ _ 97 rfl _ _ (by simp [Act.eval]) (by simp [Act.eval]) (hrm w2 hb2 _ rfl _) ?_
            refine hK _ _ ?_; clear hK K
            have c9 := hbx w2 hb2
            refine wpAnyIn_ready (rs := [9]) (by kernel_rfl) (by simp) ?_
            refine AllReadyIn.cons rfl (fun K hK => ?_) AllReadyIn.nil
            go_simp
            refine hK _ _ ?_; clear hK K
            refine wpAnyIn_done (by kernel_rfl) ?_ _
            exact hfin w2 hb2 _ rfl
          · go_simp
            refine hK _ _ ?_; clear hK K
            refine wpAnyIn_ready (rs := [0]) (by kernel_rfl) (by simp) ?_
            refine AllReadyIn.cons rfl (fun K hK => ?_) AllReadyIn.nil
            go_simp
            refine hK _ _ ?_; clear hK K
            refine wpAnyIn_ready (rs := [8]) (by kernel_rfl) (by simp) ?_
            refine AllReadyIn.cons rfl (fun K hK => ?_) AllReadyIn.nil
            refine stepIn_append_run rfl _ _ 97 rfl _ _ (by simp [Act.eval]) (by simp [Act.eval]) (hrm w2 hb2 _ rfl _) ?_
            refine hK _ _ ?_; clear hK K
            have c9 := hbx w2 hb2
            refine wpAnyIn_ready (rs := [9]) (by kernel_rfl) (by simp) ?_
            refine AllReadyIn.cons rfl (fun K hK => ?_) AllReadyIn.nil
            go_simp
            refine hK _ _ ?_; clear hK K
            refine wpAnyIn_done (by kernel_rfl) ?_ _
            exact hfin w2 hb2 _ rfl
      -- END OF REGION
    · have hd1 := hds0 hlt
      have hltz : ¬ ((f : Int) < ((a + m : Nat) : Int)) := by omega
      clear k1 k2 k3 k4 k5 hx
      gi_wp2_with (gi_at_call 70; refine (hE _ hb0).mono ?_; rintro e w1 ⟨rfl, hb1⟩; obtain ⟨p1, p2, p3, p4, p5, p6, p7⟩ := hfa w1 hb1)
      refine ⟨p7, ?_⟩
      unfold DrI
      rw [hd1]
      exact ⟨p6, p1, p2, p3, c, p4, k6, k7, hk8⟩
  case done =>
    rintro D V hD ⟨k1, k2, k3, k4, c, k5, k6, k7, _⟩ hK
    rw [List.take_length] at k4 k7
    have hdl := dropL_len xs at_
    have hok := drop_ok (k := at_) h.ok
    generalize hd : dropL at_ xs = d at *
    have hS1 := k1.is h.one (by simp; omega)
    have e1 := hS1.cell 1
    have e2 := k4.cell 0
    have f1 := hS1.frozen 1
    simp at e1 e2
    have hfin : ∀ W c', Kp V W [g] → Is W g 101 c' → c'.size = cap * 2 → c'.toList.take (d.length * 2) = ecs d → W.heap[D]? = some (.deferred (some [])) →
        (Instr.takeDeferred D).run Try.prog (W.setCell ⟨S, 1, none⟩ (.slice (some ⟨g, 0, none⟩) d.length cap)) = .ok [] ((W.setCell ⟨S, 1, none⟩ (.slice (some ⟨g, 0, none⟩) d.length cap)).putObj D (.deferred none)) ∧
        ∃ v', To w ((W.setCell ⟨S, 1, none⟩ (.slice (some ⟨g, 0, none⟩) d.length cap)).putObj D (.deferred none)) S (.slice (some ⟨g, 0, none⟩) xs.length cap) v' n d := fun W c' hk hi hs ht hKW => by
      have hK2 : (W.setCell ⟨S, 1, none⟩ (.slice (some ⟨g, 0, none⟩) d.length cap)).heap[D]? = some (.deferred (some [])) := (KeepsOthers.setCell _ _ _).same D _ hKW rfl
      refine ⟨run_takeDeferred hK2, .slice (some ⟨g, 0, none⟩) d.length cap, ⟨⟨?_, ?_, hok, h.lo, h.hi⟩, ?_, fun _ hg => .inl hg⟩⟩
      · exact ((hk.is hS1 (by simp; omega)).put 1 _).kept (grownBy_putObj' _ D _) (fun e => by cases e; omega)
      · exact Rw.mk (Nat.zero_le g) ((hi.other (p := ⟨S, 1, none⟩) (by simp; omega) _).kept (grownBy_putObj' _ D _) (fun e => by cases e; omega)) (by omega) h5 hs ht
      · refine Kp.grow ((k1.trans hk (fun y hy => .inl hy)).more (Y := S :: ob (.slice (some ⟨g, 0, none⟩) xs.length cap)) (fun x hx => by simp at hx; simp [ob, Value.ownBlock, hx]) |>.put ⟨S, 1, none⟩ _ (.inl (by simp))) (grownBy_putObj' _ D _) (fun r e => by cases e; omega)
    have mixed : Try.prog.follows .mixedOrders = true := by kernel_rfl
    have hrn : d.length ≤ xs.length := hdl
    rcases Nat.lt_or_ge d.length xs.length with hlt | hge
    · obtain ⟨zs, hzl, hcl⟩ := clear2 (w := V.drew) k5 (d.length * 2) (xs.length - d.length) (cap - d.length) (by omega) (by rw [k6]; omega) 0
      have hk9 : Kp V (V.drew.setRow g (spl c (d.length * 2) zs)) [g] := ((Kp.refl V [g]).drewN 1).row g _ (.inl (by simp))
      have hfin9 := hfin _ (spl c (d.length * 2) zs) hk9 (Is.row (w := V.drew) k5) (by rw [spl_size (by rw [k6, hzl]; omega), k6]) (by rw [spl_low (Nat.le_refl _) (by rw [k6]; omega)]; exact k7) (((KeepsFrom.of_kp (B := 0) hk9 (fun x hx => .inr ⟨101, c, by simp at hx; rw [hx]; exact k5⟩)).same D _ (Nat.zero_le _) hK rfl))
      have hS9 := hk9.is hS1 (by simp; omega)
      have e3 := hS9.cell 1
      have f3 := hS9.frozen 1
      have hk4 := hk9.is k4 (by simp; omega)
      have e4 := hk4.cell 0
      simp at e3 e4
      have hb4 : ¬ (cap = d.length) := by omega
      have hltz : (d.length : Int) ≤ (xs.length : Int) := by omega
      clear k1 k2 k3 k4 k5 k6 k7 hfin h hg hI0 hRd hends hK
      gi_wp2
      refine wpIn_mono ?_ calm_le
      gi_region_with_o (fail)
      all_goals refine calm_normal ?_
      all_goals gi_wp2
      all_goals refine ⟨by simp, .inl ⟨_, _, rfl, hfin9.1, ?_⟩⟩
      all_goals exact ⟨_, results_none rfl _ _ _, ⟨_, rfl⟩, by first | exact hfin9.2 | (rw [hd]; exact hfin9.2)⟩
    · have hde : d.length = xs.length := by omega
      have hfin9 := hfin V.drew c ((Kp.refl V [g]).drewN 1) k5 k6 k7 hK
      rw [hde] at hfin9 e2
      have hc0 : ∀ W p c, (Builtin.clear_ #[97] 0 #[.slice p 0 c]).run Try.prog W = .ok (.tuple #[]) W := fun W p c => clear0 W p c 0
      clear k1 k2 k3 k4 k5 k6 k7 hfin hg hI0 hRd hends hK
      by_cases hcT : cap = xs.length
      · subst hcT
        gi_wp2
        refine wpIn_mono ?_ calm_le
        gi_region_with_o (fail)
        all_goals refine calm_normal ?_
        all_goals gi_wp2
        all_goals refine ⟨by simp, .inl ⟨_, _, rfl, hfin9.1, ?_⟩⟩
        all_goals exact ⟨_, results_none rfl _ _ _, ⟨_, rfl⟩, by first | exact hfin9.2 | (rw [hd]; exact hfin9.2)⟩
      · gi_wp2
        refine wpIn_mono ?_ calm_le
        gi_region_with_o (fail)
        all_goals refine calm_normal ?_
        all_goals gi_wp2
        all_goals refine ⟨by simp, .inl ⟨_, _, rfl, hfin9.1, ?_⟩⟩
        all_goals exact ⟨_, results_none rfl _ _ _, ⟨_, rfl⟩, by first | exact hfin9.2 | (rw [hd]; exact hfin9.2)⟩
  case stop =>
    rintro D c k V _ _ _ h _
    exact h.elim
end Go.Proofs.Ytnpjbddannkgfaa
