/-
  FnExactDualComplex: for every complex value that comes in (whatever its numbers, sizes and sharing), the law's call returns true and leaves the argument as it was. No condition.
-/
import Derived.Test.YtpdkfidmmjlmnaaLawDul
import Derived.Test.YtpdkfidmmjlmnaaQh
namespace Go.Proofs.Ytpdkfidmmjlmnaa
open Go.ChangeShapes Go.WideShapes Go.ChangeAt Go.RowKit

set_option maxRecDepth 100000 in
theorem dul_lifted (os : Os) (started : os.Started) (H : Type) (enc : TypeId × Value → H) :
    ReturnsInHanded {} Try.checked os 15 .any (Rows.fnExactDualComplexSpec.pre6 enc Try.prog Try.f15 Rows.fnExactDualComplexRow.domain false) (Rows.fnExactDualComplexSpec.post enc Try.prog Try.f15 false true false false) := by
  refine returnsInHanded_of_change (C := Try.checked) Try.own started (by kernel_rfl) Try.func15
    (ChangeSpec.witness6 (enc := enc) (C := Try.checked) false ⟨#[], #[.agg #[.int .i64 0, .slice none 0 0, .slice none 0 0]], []⟩ 8 (by kernel_rfl) (by kernel_rfl) (by kernel_rfl) (by kernel_rfl)) ?_
  intro W base args ds gs before hval0 hW hcnd _
  have hval : ∀ (j : Nat) t v, Try.f15.params[j]? = some t → args[j]? = some v → Value.okWide Try.prog W .any base t v := hval0
  have hW' := hW
  obtain ⟨p, q, hA0, hV, rfl, hfz, hnd⟩ := hW
  have hA : DataW.TrodAll enc Try.prog W 0 (fun _ => true) true Try.f15.params.toList args.toList ds p := hA0
  rw [Try.params15] at hA hval
  obtain ⟨v0, d0, rfl, rfl, h0⟩ := trodAll_one hA
  obtain ⟨rfl, rfl⟩ := trodVars_none hV
  have k0 := h0
  have lt0 : ∀ x ∈ p, x.block < W.heap.size := by obtain ⟨m, hm⟩ := k0; exact DataW.trod_lt m _ _ _ hm
  obtain ⟨q0, dv0, mv0, xs0, ys0, rfl, hx0, hdl0, hml0⟩ := complex_of_trod (hval 0 25 v0 rfl rfl) h0
  clear hA0 hval0
  refine (lawDul_any q0 dv0 mv0 xs0 ys0 W hx0 hdl0 hml0).mono fun e W' ⟨he, bel⟩ => ?_
  subst he
  exact ⟨_, rfl, _, _, _, [], _, [], hW', trodAll_mk1 (shut_bool Try.underlying4 _), trodAll_mk1 (Below.trod Try.laidOut (by kernel_rfl) (of_decide_eq_true (by kernel_rfl)) k0 bel lt0), rfl, bel.frame _, fun h => by cases h⟩

set_option maxRecDepth 100000 in
theorem dul_unf : Try.checked.prog.unfollowed 15 = false := by kernel_rfl
theorem dul_rec : Try.checked.prog.recurses 15 = false := Try.recurses dul_unf
set_option maxRecDepth 100000 in
set_option maxHeartbeats 40000000 in
theorem dul_facts : joinedFacts Try.checked.prog 15 Try.f15 Rows.fnExactDualComplexSpec Rows.fnExactDualComplexRow = true := by
  unfold joinedFacts
  simp only [Try.mayEnter, Try.liftsFinal, Try.make, dul_rec, dul_unf, Bool.and_eq_true]
  and_intros
  all_goals first | exact trivial | (as_aux_lemma => kernel_rfl)

theorem dul_named : Try.checked.prog.funcNamed Rows.fnExactDualComplexRow.func = some 15 := by kernel_rfl
theorem dul_inst : Try.f15.isInstance Try.checked.prog Rows.fnExactDualComplexRow.origin Rows.fnExactDualComplexRow.targs := of_decide_eq_true (by kernel_rfl)
theorem dul_wrap : Try.f15.isWrapper Try.checked.prog Rows.fnExactDualComplexRow.wrapper Rows.fnExactDualComplexRow.mainSum := by
  unfold Func.isWrapper
  first | (rw [if_pos (by decide +kernel)]; kernel_rfl) | (rw [if_neg (by decide +kernel)]; exact ⟨rfl, rfl⟩)

set_option maxHeartbeats 2000000 in
theorem dul_over : Rows.fnExactDualComplexRow.holds Try.pinned (OpenSpec.ofChange Rows.fnExactDualComplexSpec) :=
  OpenClaim.holds_of_wide 15 Try.f15 rfl rfl rfl rfl rfl rfl rfl ⟨rfl, rfl, rfl, rfl, rfl⟩ rfl rfl rfl rfl rfl dul_named Try.func15 dul_facts
    dul_inst dul_wrap (fun os started H enc _ => dul_lifted os started H enc)

theorem dul_proved : Rows.FnExactDualComplexSaid := dul_over
#print axioms dul_proved
end Go.Proofs.Ytpdkfidmmjlmnaa
