/-
  FnExactTensorDims: for every two complex values that come in (whatever their numbers, sizes and sharing), the law's call returns true and leaves the arguments as they were. No condition.
-/
import Derived.Test.YtpdkfidmmjlmnaaLawTdl
import Derived.Test.YtpdkfidmmjlmnaaQh
namespace Go.Proofs.Ytpdkfidmmjlmnaa
open Go.ChangeShapes Go.WideShapes Go.ChangeAt Go.RowKit

set_option maxRecDepth 100000 in
theorem tdl_lifted (os : Os) (started : os.Started) (H : Type) (enc : TypeId × Value → H) :
    ReturnsInHanded {} Try.checked os 16 .any (Rows.fnExactTensorDimsSpec.pre6 enc Try.prog Try.f16 Rows.fnExactTensorDimsRow.domain false) (Rows.fnExactTensorDimsSpec.post enc Try.prog Try.f16 false true false false) := by
  refine returnsInHanded_of_change (C := Try.checked) Try.own started (by kernel_rfl) Try.func16
    (ChangeSpec.witness6 (enc := enc) (C := Try.checked) false ⟨#[], #[.agg #[.int .i64 0, .slice none 0 0, .slice none 0 0], .agg #[.int .i64 0, .slice none 0 0, .slice none 0 0]], []⟩ 8 (by kernel_rfl) (by kernel_rfl) (by kernel_rfl) (by kernel_rfl)) ?_
  intro W base args ds gs before hval0 hW hcnd _
  have hval : ∀ (j : Nat) t v, Try.f16.params[j]? = some t → args[j]? = some v → Value.okWide Try.prog W .any base t v := hval0
  have hW' := hW
  obtain ⟨p, q, hA0, hV, rfl, hfz, hnd⟩ := hW
  have hA : DataW.TrodAll enc Try.prog W 0 (fun _ => true) true Try.f16.params.toList args.toList ds p := hA0
  rw [Try.params16] at hA hval
  obtain ⟨v0, v1, d0, d1, p0, p1, rfl, rfl, rfl, h0, h1⟩ := trodAll_two hA
  obtain ⟨rfl, rfl⟩ := trodVars_none hV
  have k0 := h0
  have lt0 : ∀ x ∈ p0, x.block < W.heap.size := by obtain ⟨m, hm⟩ := k0; exact DataW.trod_lt m _ _ _ hm
  obtain ⟨q0, dv0, mv0, xs0, ys0, rfl, hx0, hdl0, hml0⟩ := complex_of_trod (hval 0 25 v0 rfl rfl) h0
  have k1 := h1
  have lt1 : ∀ x ∈ p1, x.block < W.heap.size := by obtain ⟨m, hm⟩ := k1; exact DataW.trod_lt m _ _ _ hm
  obtain ⟨q1, dv1, mv1, xs1, ys1, rfl, hx1, hdl1, hml1⟩ := complex_of_trod (hval 1 25 v1 rfl rfl) h1
  clear hA0 hval0
  refine (lawTdl_any q0 dv0 mv0 xs0 ys0 q1 dv1 mv1 xs1 ys1 W hx0 hdl0 hml0 hx1 hdl1 hml1).mono fun e W' ⟨he, bel⟩ => ?_
  subst he
  exact ⟨_, rfl, _, _, _, [], _, [], hW', trodAll_mk1 (shut_bool Try.underlying4 _), trodAll_mk2 (Below.trod Try.laidOut (by kernel_rfl) (of_decide_eq_true (by kernel_rfl)) k0 bel lt0) (Below.trod Try.laidOut (by kernel_rfl) (of_decide_eq_true (by kernel_rfl)) k1 bel lt1), rfl, bel.frame _, fun h => by cases h⟩

set_option maxRecDepth 100000 in
theorem tdl_unf : Try.checked.prog.unfollowed 16 = true := by kernel_rfl
theorem tdl_rec : Try.checked.prog.recurses 16 = true := by
  unfold Program.recurses
  rw [tdl_unf, Bool.true_or]
set_option maxRecDepth 100000 in
set_option maxHeartbeats 40000000 in
theorem tdl_facts : joinedFacts Try.checked.prog 16 Try.f16 Rows.fnExactTensorDimsSpec Rows.fnExactTensorDimsRow = true := by
  unfold joinedFacts
  simp only [Try.mayEnter, Try.liftsFinal, Try.make, tdl_rec, tdl_unf, Bool.and_eq_true]
  and_intros
  all_goals first | exact trivial | (as_aux_lemma => kernel_rfl)

theorem tdl_named : Try.checked.prog.funcNamed Rows.fnExactTensorDimsRow.func = some 16 := by kernel_rfl
theorem tdl_inst : Try.f16.isInstance Try.checked.prog Rows.fnExactTensorDimsRow.origin Rows.fnExactTensorDimsRow.targs := of_decide_eq_true (by kernel_rfl)
theorem tdl_wrap : Try.f16.isWrapper Try.checked.prog Rows.fnExactTensorDimsRow.wrapper Rows.fnExactTensorDimsRow.mainSum := by
  unfold Func.isWrapper
  first | (rw [if_pos (by decide +kernel)]; kernel_rfl) | (rw [if_neg (by decide +kernel)]; exact ⟨rfl, rfl⟩)

set_option maxHeartbeats 2000000 in
theorem tdl_over : Rows.fnExactTensorDimsRow.holds Try.pinned (OpenSpec.ofChange Rows.fnExactTensorDimsSpec) :=
  OpenClaim.holds_of_wide 16 Try.f16 rfl rfl rfl rfl rfl rfl rfl ⟨rfl, rfl, rfl, rfl, rfl⟩ rfl rfl rfl rfl rfl tdl_named Try.func16 tdl_facts
    tdl_inst tdl_wrap (fun os started H enc _ => tdl_lifted os started H enc)

theorem tdl_proved : Rows.FnExactTensorDimsSaid := tdl_over
#print axioms tdl_proved
end Go.Proofs.Ytpdkfidmmjlmnaa
