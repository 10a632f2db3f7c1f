/-
  FnExactSwapFamily: for every two complex values that come in (whatever their numbers, sizes and sharing), the law's call returns true and leaves the arguments as they were. No condition.
-/
import Derived.Test.YtiokagnolbddlaaLawSwl
import Derived.Test.YtiokagnolbddlaaQh
namespace Go.Proofs.Ytiokagnolbddlaa
open Go.ChangeShapes Go.WideShapes Go.ChangeAt Go.RowKit

set_option maxRecDepth 100000 in
theorem swl_lifted (os : Os) (started : os.Started) (H : Type) (enc : TypeId × Value → H) :
    ReturnsInHanded {} Try.checked os 12 .any (Rows.fnExactSwapFamilySpec.pre6 enc Try.prog Try.f12 Rows.fnExactSwapFamilyRow.domain false) (Rows.fnExactSwapFamilySpec.post enc Try.prog Try.f12 false true false false) := by
  refine returnsInHanded_of_change (C := Try.checked) Try.own started (by kernel_rfl) Try.func12
    (ChangeSpec.witness6 (enc := enc) (C := Try.checked) false ⟨#[], #[.agg #[.int .i64 0, .slice none 0 0, .slice none 0 0], .agg #[.int .i64 0, .slice none 0 0, .slice none 0 0]], []⟩ 8 (by kernel_rfl) (by kernel_rfl) (by kernel_rfl) (by kernel_rfl)) ?_
  intro W base args ds gs before hval0 hW hcnd _
  have hval : ∀ (j : Nat) t v, Try.f12.params[j]? = some t → args[j]? = some v → Value.okWide Try.prog W .any base t v := hval0
  have hW' := hW
  obtain ⟨p, q, hA0, hV, rfl, hfz, hnd⟩ := hW
  have hA : DataW.TrodAll enc Try.prog W 0 (fun _ => true) true Try.f12.params.toList args.toList ds p := hA0
  rw [Try.params12] at hA hval
  obtain ⟨v0, v1, d0, d1, p0, p1, rfl, rfl, rfl, h0, h1⟩ := trodAll_two hA
  obtain ⟨rfl, rfl⟩ := trodVars_none hV
  have k0 := h0
  have lt0 : ∀ x ∈ p0, x.block < W.heap.size := by obtain ⟨m, hm⟩ := k0; exact DataW.trod_lt m _ _ _ hm
  obtain ⟨q0, dv0, mv0, xs0, ys0, rfl, hx0, hdl0, hml0⟩ := complex_of_trod (hval 0 59 v0 rfl rfl) h0
  have k1 := h1
  have lt1 : ∀ x ∈ p1, x.block < W.heap.size := by obtain ⟨m, hm⟩ := k1; exact DataW.trod_lt m _ _ _ hm
  obtain ⟨q1, dv1, mv1, xs1, ys1, rfl, hx1, hdl1, hml1⟩ := complex_of_trod (hval 1 59 v1 rfl rfl) h1
  clear hA0 hval0
  refine (lawSwl_any q0 dv0 mv0 xs0 ys0 q1 dv1 mv1 xs1 ys1 W hx0 hdl0 hml0 hx1 hdl1 hml1).mono fun e W' ⟨he, bel⟩ => ?_
  subst he
  exact ⟨_, rfl, _, _, _, [], _, [], hW', trodAll_mk1 (shut_bool Try.underlying4 _), trodAll_mk2 (Below.trod Try.laidOut (by kernel_rfl) (of_decide_eq_true (by kernel_rfl)) k0 bel lt0) (Below.trod Try.laidOut (by kernel_rfl) (of_decide_eq_true (by kernel_rfl)) k1 bel lt1), rfl, bel.frame _, fun h => by cases h⟩

set_option maxRecDepth 100000 in
theorem swl_unf : Try.checked.prog.unfollowed 12 = true := by kernel_rfl
theorem swl_rec : Try.checked.prog.recurses 12 = true := by
  unfold Program.recurses
  rw [swl_unf, Bool.true_or]
set_option maxRecDepth 100000 in
set_option maxHeartbeats 40000000 in
theorem swl_facts : joinedFacts Try.checked.prog 12 Try.f12 Rows.fnExactSwapFamilySpec Rows.fnExactSwapFamilyRow = true := by
  unfold joinedFacts
  simp only [Try.mayEnter, Try.liftsFinal, Try.make, swl_rec, swl_unf, Bool.and_eq_true]
  and_intros
  all_goals first | exact trivial | (as_aux_lemma => kernel_rfl)

theorem swl_named : Try.checked.prog.funcNamed Rows.fnExactSwapFamilyRow.func = some 12 := by kernel_rfl
theorem swl_inst : Try.f12.isInstance Try.checked.prog Rows.fnExactSwapFamilyRow.origin Rows.fnExactSwapFamilyRow.targs := of_decide_eq_true (by kernel_rfl)
theorem swl_wrap : Try.f12.isWrapper Try.checked.prog Rows.fnExactSwapFamilyRow.wrapper Rows.fnExactSwapFamilyRow.mainSum := by
  unfold Func.isWrapper
  first | (rw [if_pos (by decide +kernel)]; kernel_rfl) | (rw [if_neg (by decide +kernel)]; exact ⟨rfl, rfl⟩)

set_option maxHeartbeats 2000000 in
theorem swl_over : Rows.fnExactSwapFamilyRow.holds Try.pinned (OpenSpec.ofChange Rows.fnExactSwapFamilySpec) :=
  OpenClaim.holds_of_wide 12 Try.f12 rfl rfl rfl rfl rfl rfl rfl ⟨rfl, rfl, rfl, rfl, rfl⟩ rfl rfl rfl rfl rfl swl_named Try.func12 swl_facts
    swl_inst swl_wrap (fun os started H enc _ => swl_lifted os started H enc)

theorem swl_proved : Rows.FnExactSwapFamilySaid := swl_over
#print axioms swl_proved
end Go.Proofs.Ytiokagnolbddlaa
