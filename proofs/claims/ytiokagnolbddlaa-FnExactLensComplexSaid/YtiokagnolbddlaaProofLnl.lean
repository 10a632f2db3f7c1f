/-
  FnExactLensComplex: for every two numbers that come in, the law's call returns true. No condition.
-/
import Derived.Test.YtiokagnolbddlaaLawLnl
import Derived.Test.YtiokagnolbddlaaQh
namespace Go.Proofs.Ytiokagnolbddlaa
open Go.ChangeShapes Go.WideShapes Go.ChangeAt Go.RowKit

set_option maxRecDepth 100000 in
theorem lnl_lifted (os : Os) (started : os.Started) (H : Type) (enc : TypeId × Value → H) :
    ReturnsInHanded {} Try.checked os 3 .any (Rows.fnExactLensComplexSpec.pre6 enc Try.prog Try.f3 Rows.fnExactLensComplexRow.domain false) (Rows.fnExactLensComplexSpec.post enc Try.prog Try.f3 false true false false) := by
  refine returnsInHanded_of_change (C := Try.checked) Try.own started (by kernel_rfl) Try.func3
    (ChangeSpec.witness6 (enc := enc) (C := Try.checked) false ⟨#[], #[.int .i64 0, .int .i64 0], []⟩ 8 (by kernel_rfl) (by kernel_rfl) (by kernel_rfl) (by kernel_rfl)) ?_
  intro W base args ds gs before hval0 hW hcnd _
  have hval : ∀ (j : Nat) t v, Try.f3.params[j]? = some t → args[j]? = some v → Value.okWide Try.prog W .any base t v := hval0
  have hW' := hW
  obtain ⟨p, q, hA0, hV, rfl, hfz, hnd⟩ := hW
  have hA : DataW.TrodAll enc Try.prog W 0 (fun _ => true) true Try.f3.params.toList args.toList ds p := hA0
  rw [Try.params3] at hA hval
  obtain ⟨v0, v1, d0, d1, p0, p1, rfl, rfl, rfl, h0, h1⟩ := trodAll_two hA
  obtain ⟨rfl, rfl⟩ := trodVars_none hV
  obtain ⟨n0, rfl, rfl, rfl, wn0⟩ := open_int Try.underlying2 (hval 0 2 v0 rfl rfl) h0
  obtain ⟨n1, rfl, rfl, rfl, wn1⟩ := open_int Try.underlying2 (hval 1 2 v1 rfl rfl) h1
  clear hA0 hval0
  refine (lawLnl_any n0 n1 W ).mono fun e W' ⟨he, bel⟩ => ?_
  subst he
  exact ⟨_, rfl, _, _, _, [], _, [], hW', trodAll_mk1 (shut_bool Try.underlying4 _), trodAll_mk2 (shut_int Try.underlying2 wn0) (shut_int Try.underlying2 wn1), rfl, bel.frame _, fun h => by cases h⟩

set_option maxRecDepth 100000 in
theorem lnl_unf : Try.checked.prog.unfollowed 3 = false := by kernel_rfl
theorem lnl_rec : Try.checked.prog.recurses 3 = false := Try.recurses lnl_unf
set_option maxRecDepth 100000 in
set_option maxHeartbeats 40000000 in
theorem lnl_facts : joinedFacts Try.checked.prog 3 Try.f3 Rows.fnExactLensComplexSpec Rows.fnExactLensComplexRow = true := by
  unfold joinedFacts
  simp only [Try.mayEnter, Try.liftsFinal, Try.make, lnl_rec, lnl_unf, Bool.and_eq_true]
  and_intros
  all_goals first | exact trivial | (as_aux_lemma => kernel_rfl)

theorem lnl_named : Try.checked.prog.funcNamed Rows.fnExactLensComplexRow.func = some 3 := by kernel_rfl
theorem lnl_inst : Try.f3.isInstance Try.checked.prog Rows.fnExactLensComplexRow.origin Rows.fnExactLensComplexRow.targs := of_decide_eq_true (by kernel_rfl)
theorem lnl_wrap : Try.f3.isWrapper Try.checked.prog Rows.fnExactLensComplexRow.wrapper Rows.fnExactLensComplexRow.mainSum := by
  unfold Func.isWrapper
  first | (rw [if_pos (by decide +kernel)]; kernel_rfl) | (rw [if_neg (by decide +kernel)]; exact ⟨rfl, rfl⟩)

set_option maxHeartbeats 2000000 in
theorem lnl_over : Rows.fnExactLensComplexRow.holds Try.pinned (OpenSpec.ofChange Rows.fnExactLensComplexSpec) :=
  OpenClaim.holds_of_wide 3 Try.f3 rfl rfl rfl rfl rfl rfl rfl ⟨rfl, rfl, rfl, rfl, rfl⟩ rfl rfl rfl rfl rfl lnl_named Try.func3 lnl_facts
    lnl_inst lnl_wrap (fun os started H enc _ => lnl_lifted os started H enc)

theorem lnl_proved : Rows.FnExactLensComplexSaid := lnl_over
#print axioms lnl_proved
end Go.Proofs.Ytiokagnolbddlaa
