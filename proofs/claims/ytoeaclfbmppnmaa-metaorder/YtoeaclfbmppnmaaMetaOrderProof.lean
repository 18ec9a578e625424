/- Proved here: what may be may be behind any change, and keeps its kind; changes of unlike parts, and two Grows, ask for no order; Grow, Cut and Stamp, done twice, are as done once. Conditions: none. -/
import Derived.Test.YtoeaclfbmppnmaaRows
import Derived.Test.YtoeaclfbmppnmaaMtR
import Derived.Test.YtoeaclfbmppnmaaLift
import Derived.WalkKit
import Derived.ProofKit
import Derived.OpenShut
namespace Go.Proofs.Ytoeaclfbmppnmaa.metaOrder
open Go.ChangeShapes Go.WideShapes Go.ChangeAt Go.RowKit
set_option linter.unusedVariables false
set_option maxRecDepth 100000 in
theorem lifted (os : Os) (started : os.Started) (H : Type) (enc : TypeId × Value → H) :
    ReturnsInHanded {} Try.checked os 8 .any (Rows.metaOrderSpec.pre6 enc Try.prog Try.f8 Rows.metaOrderRow.domain false) (Rows.metaOrderSpec.post enc Try.prog Try.f8 false true false false) := by
  refine returnsInHanded_of_change (C := Try.checked) own started (by kernel_rfl) Try.func8
    (ChangeSpec.witness6 (enc := enc) (C := Try.checked) false ⟨#[], #[.agg #[.int .u8 0, .int .u32 0, .int .u64 0, .int .u64 0], .agg #[.int .u8 0, .int .u64 0, .int .u8 0, .int .u64 0], .agg #[.int .u8 0, .int .u64 0, .int .u8 0, .int .u64 0]], []⟩ 8 (by kernel_rfl) (by kernel_rfl) (by kernel_rfl) (by kernel_rfl)) ?_
  intro W base args ds gs before hval0 hW hcnd _
  have hval : ∀ (j : Nat) t v, Try.f8.params[j]? = some t → args[j]? = some v → Value.okWide Try.prog W .any base t v := hval0
  have hW' := hW
  obtain ⟨p, q, hA0, hV, rfl, hfz, hnd⟩ := hW
  have hA : DataW.TrodAll enc Try.prog W 0 (fun _ => true) true Try.f8.params.toList args.toList ds p := hA0
  rw [Try.params8] at hA hval
  obtain ⟨v0, vs0, d0, ds0, p0, q0, hargs, rfl, rfl, h0, r0⟩ := trodAll_cons hA
  obtain ⟨v1, vs1, d1, ds1, p1, q1, rfl, rfl, rfl, h1, r1⟩ := trodAll_cons r0
  obtain ⟨v2, vs2, d2, ds2, p2, q2, rfl, rfl, rfl, h2, r2⟩ := trodAll_cons r1
  obtain ⟨rfl, rfl, rfl⟩ := trodAll_nil r2
  obtain rfl : args = #[v0, v1, v2] := by cases args; simp_all
  obtain ⟨rfl, rfl⟩ := trodVars_none hV
  obtain ⟨k0, z0, m0, t0, kk0, kz0, km0, kt0, rfl⟩ := meta_of (hval 0 25 v0 rfl rfl) h0
  obtain ⟨x1, n1, o1, b1, kx1, kn1, ko1, kb1, rfl⟩ := change_of (hval 1 41 v1 rfl rfl) h1
  obtain ⟨x2, n2, o2, b2, kx2, kn2, ko2, kb2, rfl⟩ := change_of (hval 2 41 v2 rfl rfl) h2
  refine (metaorder_any k0 z0 m0 t0 x1 n1 o1 b1 x2 n2 o2 b2 km0 kb1 kb2 W).mono fun e W' ⟨he, hg⟩ => ?_
  subst he
  exact ⟨_, rfl, law_post hW' rfl rfl rfl rfl rfl (by rw [Try.params8]; exact reads_of [25, 41, 41] (by kernel_rfl)) hg⟩
theorem over : Rows.metaOrderRow.holds Try.pinned (OpenSpec.ofChange Rows.metaOrderSpec) :=
  OpenClaim.holds_of_wide 8 Try.f8 rfl rfl rfl rfl rfl rfl rfl ⟨rfl, rfl, rfl, rfl, rfl⟩ rfl rfl rfl rfl rfl (by kernel_rfl) Try.func8 (by kernel_rfl)
    (of_decide_eq_true (by kernel_rfl)) (by unfold Func.isWrapper; first | (rw [if_pos (by decide +kernel)]; kernel_rfl) | (rw [if_neg (by decide +kernel)]; exact ⟨rfl, rfl⟩))
    (fun os started H enc _ => lifted os started H enc)
theorem proved : Rows.MetaOrderSaid := over
#print axioms proved
end Go.Proofs.Ytoeaclfbmppnmaa.metaOrder
