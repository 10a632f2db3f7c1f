/-
  FnExactAddComplexes: for every two complex values that come in (whatever their numbers, sizes and sharing), the law's call returns true and leaves the arguments as they were. No condition.
-/
import Derived.Test.YtpdkfidmmjlmnaaLawAxl
import Derived.Test.YtpdkfidmmjlmnaaQh
namespace Go.Proofs.Ytpdkfidmmjlmnaa
open Go.ChangeShapes Go.WideShapes Go.ChangeAt Go.RowKit

set_option maxRecDepth 100000 in
theorem axl_lifted (os : Os) (started : os.Started) (H : Type) (enc : TypeId × Value → H) :
    ReturnsInHanded {} Try.checked os 13 .any (Rows.fnExactAddComplexesSpec.pre6 enc Try.prog Try.f13 Rows.fnExactAddComplexesRow.domain false) (Rows.fnExactAddComplexesSpec.post enc Try.prog Try.f13 false true false false) := by
  refine returnsInHanded_of_change (C := Try.checked) Try.own started (by kernel_rfl) Try.func13
    (ChangeSpec.witness6 (enc := enc) (C := Try.checked) false ⟨#[], #[.agg #[.int .i64 0, .slice none 0 0, .slice none 0 0], .agg #[.int .i64 0, .slice none 0 0, .slice none 0 0]], []⟩ 8 (by kernel_rfl) (by kernel_rfl) (by kernel_rfl) (by kernel_rfl)) ?_
  intro W base args ds gs before hval0 hW hcnd _
  have hval : ∀ (j : Nat) t v, Try.f13.params[j]? = some t → args[j]? = some v → Value.okWide Try.prog W .any base t v := hval0
  have hW' := hW
  obtain ⟨p, q, hA0, hV, rfl, hfz, hnd⟩ := hW
  have hA : DataW.TrodAll enc Try.prog W 0 (fun _ => true) true Try.f13.params.toList args.toList ds p := hA0
  rw [Try.params13] at hA hval
  obtain ⟨v0, v1, d0, d1, p0, p1, rfl, rfl, rfl, h0, h1⟩ := trodAll_two hA
  obtain ⟨rfl, rfl⟩ := trodVars_none hV
  have k0 := h0
  have lt0 : ∀ x ∈ p0, x.block < W.heap.size := by obtain ⟨m, hm⟩ := k0; exact DataW.trod_lt m _ _ _ hm
  obtain ⟨q0, dv0, mv0, xs0, ys0, rfl, hx0, hdl0, hml0⟩ := complex_of_trod (hval 0 25 v0 rfl rfl) h0
  have k1 := h1
  have lt1 : ∀ x ∈ p1, x.block < W.heap.size := by obtain ⟨m, hm⟩ := k1; exact DataW.trod_lt m _ _ _ hm
  obtain ⟨q1, dv1, mv1, xs1, ys1, rfl, hx1, hdl1, hml1⟩ := complex_of_trod (hval 1 25 v1 rfl rfl) h1
  clear hA0 hval0
  refine (lawAxl_any q0 dv0 mv0 xs0 ys0 q1 dv1 mv1 xs1 ys1 W hx0 hdl0 hml0 hx1 hdl1 hml1).mono fun e W' ⟨he, bel⟩ => ?_
  subst he
  exact ⟨_, rfl, _, _, _, [], _, [], hW', trodAll_mk1 (shut_bool Try.underlying4 _), trodAll_mk2 (Below.trod Try.laidOut (by kernel_rfl) (of_decide_eq_true (by kernel_rfl)) k0 bel lt0) (Below.trod Try.laidOut (by kernel_rfl) (of_decide_eq_true (by kernel_rfl)) k1 bel lt1), rfl, bel.frame _, fun h => by cases h⟩

set_option maxRecDepth 100000 in
theorem axl_unf : Try.checked.prog.unfollowed 13 = false := by kernel_rfl
theorem axl_rec : Try.checked.prog.recurses 13 = false := Try.recurses axl_unf
set_option maxRecDepth 100000 in
set_option maxHeartbeats 40000000 in
theorem axl_facts : joinedFacts Try.checked.prog 13 Try.f13 Rows.fnExactAddComplexesSpec Rows.fnExactAddComplexesRow = true := by
  unfold joinedFacts
  simp only [Try.mayEnter, Try.liftsFinal, Try.make, axl_rec, axl_unf, Bool.and_eq_true]
  and_intros
  all_goals first | exact trivial | (as_aux_lemma => kernel_rfl)

theorem axl_named : Try.checked.prog.funcNamed Rows.fnExactAddComplexesRow.func = some 13 := by kernel_rfl
theorem axl_inst : Try.f13.isInstance Try.checked.prog Rows.fnExactAddComplexesRow.origin Rows.fnExactAddComplexesRow.targs := of_decide_eq_true (by kernel_rfl)
theorem axl_wrap : Try.f13.isWrapper Try.checked.prog Rows.fnExactAddComplexesRow.wrapper Rows.fnExactAddComplexesRow.mainSum := by
  unfold Func.isWrapper
  first | (rw [if_pos (by decide +kernel)]; kernel_rfl) | (rw [if_neg (by decide +kernel)]; exact ⟨rfl, rfl⟩)

set_option maxHeartbeats 2000000 in
theorem axl_over : Rows.fnExactAddComplexesRow.holds Try.pinned (OpenSpec.ofChange Rows.fnExactAddComplexesSpec) :=
  OpenClaim.holds_of_wide 13 Try.f13 rfl rfl rfl rfl rfl rfl rfl ⟨rfl, rfl, rfl, rfl, rfl⟩ rfl rfl rfl rfl rfl axl_named Try.func13 axl_facts
    axl_inst axl_wrap (fun os started H enc _ => axl_lifted os started H enc)

theorem axl_proved : Rows.FnExactAddComplexesSaid := axl_over
#print axioms axl_proved
end Go.Proofs.Ytpdkfidmmjlmnaa
