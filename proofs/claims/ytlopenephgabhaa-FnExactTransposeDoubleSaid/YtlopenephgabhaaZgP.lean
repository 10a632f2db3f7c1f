/-
  FnExactTransposeDouble: for every double complex value that comes in (whatever its numbers, sizes and sharing), the law's call returns true and leaves the argument as it was. No condition.
-/
import Derived.Test.YtlopenephgabhaaZg6
namespace Go.Proofs.Ytlopenephgabhaa
open Go.ChangeShapes Go.WideShapes Go.ChangeAt Go.RowKit

set_option maxRecDepth 100000 in
theorem tzl_lifted (os : Os) (started : os.Started) (H : Type) (enc : TypeId × Value → H) :
    ReturnsInHanded {} Try.checked os 4 .any (Rows.fnExactTransposeDoubleSpec.pre6 enc Try.prog Try.f4 Rows.fnExactTransposeDoubleRow.domain false) (Rows.fnExactTransposeDoubleSpec.post enc Try.prog Try.f4 false true false false) := by
  refine returnsInHanded_of_change (C := Try.checked) Try.own started (by kernel_rfl) Try.func4
    (ChangeSpec.witness6 (enc := enc) (C := Try.checked) false ⟨#[], #[.agg #[.int .i64 0, .slice none 0 0, .slice none 0 0, .slice none 0 0]], []⟩ 8 (by kernel_rfl) (by kernel_rfl) (by kernel_rfl) (by kernel_rfl)) ?_
  intro W base args ds gs before hval0 hW hcnd _
  have hval : ∀ (j : Nat) t v, Try.f4.params[j]? = some t → args[j]? = some v → Value.okWide Try.prog W .any base t v := hval0
  have hW' := hW
  obtain ⟨p, q, hA0, hV, rfl, hfz, hnd⟩ := hW
  have hA : DataW.TrodAll enc Try.prog W 0 (fun _ => true) true Try.f4.params.toList args.toList ds p := hA0
  rw [Try.params4] at hA hval
  obtain ⟨v0, d0, rfl, rfl, h0⟩ := trodAll_one hA
  obtain ⟨rfl, rfl⟩ := trodVars_none hV
  have k0 := h0
  have lt0 : ∀ x ∈ p, x.block < W.heap.size := by obtain ⟨m, hm⟩ := k0; exact DataW.trod_lt m _ _ _ hm
  obtain ⟨q0p, dv0, av0, vv0, dl0, al0, vl0, rfl, hx0, hml0⟩ := doublec_of_trod (hval 0 25 v0 rfl rfl) h0
  clear hA0 hval0
  refine (lawTzl_any q0p dv0 av0 vv0 dl0 al0 vl0 W hx0 hml0).mono fun e W' ⟨he, bel⟩ => ?_
  subst he
  exact ⟨_, rfl, _, _, _, [], _, [], hW', trodAll_mk1 (shut_bool Try.underlying4 _), trodAll_mk1 (Below.trod Try.laidOut (by kernel_rfl) (of_decide_eq_true (by kernel_rfl)) k0 bel lt0), rfl, bel.frame _, fun h => by cases h⟩

set_option maxRecDepth 100000 in
theorem tzl_unf : Try.checked.prog.unfollowed 4 = true := by kernel_rfl
theorem tzl_rec : Try.checked.prog.recurses 4 = true := by
  unfold Program.recurses
  rw [tzl_unf, Bool.true_or]
set_option maxRecDepth 100000 in
set_option maxHeartbeats 40000000 in
theorem tzl_facts : joinedFacts Try.checked.prog 4 Try.f4 Rows.fnExactTransposeDoubleSpec Rows.fnExactTransposeDoubleRow = true := by
  unfold joinedFacts
  simp only [Try.mayEnter, Try.liftsFinal, Try.make, tzl_rec, tzl_unf, Bool.and_eq_true]
  and_intros
  all_goals first | exact trivial | (as_aux_lemma => kernel_rfl)

theorem tzl_named : Try.checked.prog.funcNamed Rows.fnExactTransposeDoubleRow.func = some 4 := by kernel_rfl
theorem tzl_inst : Try.f4.isInstance Try.checked.prog Rows.fnExactTransposeDoubleRow.origin Rows.fnExactTransposeDoubleRow.targs := of_decide_eq_true (by kernel_rfl)
theorem tzl_wrap : Try.f4.isWrapper Try.checked.prog Rows.fnExactTransposeDoubleRow.wrapper Rows.fnExactTransposeDoubleRow.mainSum := by
  unfold Func.isWrapper
  first | (rw [if_pos (by decide +kernel)]; kernel_rfl) | (rw [if_neg (by decide +kernel)]; exact ⟨rfl, rfl⟩)

set_option maxHeartbeats 2000000 in
theorem tzl_over : Rows.fnExactTransposeDoubleRow.holds Try.pinned (OpenSpec.ofChange Rows.fnExactTransposeDoubleSpec) :=
  OpenClaim.holds_of_wide 4 Try.f4 rfl rfl rfl rfl rfl rfl rfl ⟨rfl, rfl, rfl, rfl, rfl⟩ rfl rfl rfl rfl rfl tzl_named Try.func4 tzl_facts
    tzl_inst tzl_wrap (fun os started H enc _ => tzl_lifted os started H enc)

theorem tzl_proved : Rows.FnExactTransposeDoubleSaid := tzl_over
#print axioms tzl_proved
end Go.Proofs.Ytlopenephgabhaa
