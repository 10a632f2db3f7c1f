/-
  FnExactUnitComplex: for every number that comes in, the law's call returns true. No condition.
-/
import Derived.Test.YtfgceigbfiohoaaLawUcl
import Derived.Test.YtfgceigbfiohoaaQh
namespace Go.Proofs.Ytfgceigbfiohoaa
open Go.ChangeShapes Go.WideShapes Go.ChangeAt Go.RowKit

set_option maxRecDepth 100000 in
theorem ucl_lifted (os : Os) (started : os.Started) (H : Type) (enc : TypeId × Value → H) :
    ReturnsInHanded {} Try.checked os 3 .any (Rows.fnExactUnitComplexSpec.pre6 enc Try.prog Try.f3 Rows.fnExactUnitComplexRow.domain false) (Rows.fnExactUnitComplexSpec.post enc Try.prog Try.f3 false true false false) := by
  refine returnsInHanded_of_change (C := Try.checked) Try.own started (by kernel_rfl) Try.func3
    (ChangeSpec.witness6 (enc := enc) (C := Try.checked) false ⟨#[], #[.int .i64 0], []⟩ 8 (by kernel_rfl) (by kernel_rfl) (by kernel_rfl) (by kernel_rfl)) ?_
  intro W base args ds gs before hval0 hW hcnd _
  have hval : ∀ (j : Nat) t v, Try.f3.params[j]? = some t → args[j]? = some v → Value.okWide Try.prog W .any base t v := hval0
  have hW' := hW
  obtain ⟨p, q, hA0, hV, rfl, hfz, hnd⟩ := hW
  have hA : DataW.TrodAll enc Try.prog W 0 (fun _ => true) true Try.f3.params.toList args.toList ds p := hA0
  rw [Try.params3] at hA hval
  obtain ⟨v0, d0, rfl, rfl, h0⟩ := trodAll_one hA
  obtain ⟨rfl, rfl⟩ := trodVars_none hV
  obtain ⟨n0, rfl, rfl, rfl, wn0⟩ := open_int Try.underlying2 (hval 0 2 v0 rfl rfl) h0
  clear hA0 hval0
  refine (lawUcl_any n0 W ).mono fun e W' ⟨he, bel⟩ => ?_
  subst he
  exact ⟨_, rfl, _, _, _, [], _, [], hW', trodAll_mk1 (shut_bool Try.underlying4 _), trodAll_mk1 (shut_int Try.underlying2 wn0), rfl, bel.frame _, fun h => by cases h⟩

set_option maxRecDepth 100000 in
theorem ucl_unf : Try.checked.prog.unfollowed 3 = false := by kernel_rfl
theorem ucl_rec : Try.checked.prog.recurses 3 = false := Try.recurses ucl_unf
set_option maxRecDepth 100000 in
set_option maxHeartbeats 40000000 in
theorem ucl_facts : joinedFacts Try.checked.prog 3 Try.f3 Rows.fnExactUnitComplexSpec Rows.fnExactUnitComplexRow = true := by
  unfold joinedFacts
  simp only [Try.mayEnter, Try.liftsFinal, Try.make, ucl_rec, ucl_unf, Bool.and_eq_true]
  and_intros
  all_goals first | exact trivial | (as_aux_lemma => kernel_rfl)

theorem ucl_named : Try.checked.prog.funcNamed Rows.fnExactUnitComplexRow.func = some 3 := by kernel_rfl
theorem ucl_inst : Try.f3.isInstance Try.checked.prog Rows.fnExactUnitComplexRow.origin Rows.fnExactUnitComplexRow.targs := of_decide_eq_true (by kernel_rfl)
theorem ucl_wrap : Try.f3.isWrapper Try.checked.prog Rows.fnExactUnitComplexRow.wrapper Rows.fnExactUnitComplexRow.mainSum := by
  unfold Func.isWrapper
  first | (rw [if_pos (by decide +kernel)]; kernel_rfl) | (rw [if_neg (by decide +kernel)]; exact ⟨rfl, rfl⟩)

set_option maxHeartbeats 2000000 in
theorem ucl_over : Rows.fnExactUnitComplexRow.holds Try.pinned (OpenSpec.ofChange Rows.fnExactUnitComplexSpec) :=
  OpenClaim.holds_of_wide 3 Try.f3 rfl rfl rfl rfl rfl rfl rfl ⟨rfl, rfl, rfl, rfl, rfl⟩ rfl rfl rfl rfl rfl ucl_named Try.func3 ucl_facts
    ucl_inst ucl_wrap (fun os started H enc _ => ucl_lifted os started H enc)

theorem ucl_proved : Rows.FnExactUnitComplexSaid := ucl_over
#print axioms ucl_proved
end Go.Proofs.Ytfgceigbfiohoaa
