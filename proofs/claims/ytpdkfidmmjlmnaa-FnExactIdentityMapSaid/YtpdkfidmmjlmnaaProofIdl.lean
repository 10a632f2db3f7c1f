/-
  FnExactIdentityMap: for every complex value that comes in (whatever its numbers, sizes and sharing), the law's call returns true and leaves the argument as it was. No condition.
-/
import Derived.Test.YtpdkfidmmjlmnaaLawIdl
import Derived.Test.YtpdkfidmmjlmnaaQh
namespace Go.Proofs.Ytpdkfidmmjlmnaa
open Go.ChangeShapes Go.WideShapes Go.ChangeAt Go.RowKit

set_option maxRecDepth 100000 in
theorem idl_lifted (os : Os) (started : os.Started) (H : Type) (enc : TypeId × Value → H) :
    ReturnsInHanded {} Try.checked os 20 .any (Rows.fnExactIdentityMapSpec.pre6 enc Try.prog Try.f20 Rows.fnExactIdentityMapRow.domain false) (Rows.fnExactIdentityMapSpec.post enc Try.prog Try.f20 false true false false) := by
  refine returnsInHanded_of_change (C := Try.checked) Try.own started (by kernel_rfl) Try.func20
    (ChangeSpec.witness6 (enc := enc) (C := Try.checked) false ⟨#[], #[.agg #[.int .i64 0, .slice none 0 0, .slice none 0 0]], []⟩ 8 (by kernel_rfl) (by kernel_rfl) (by kernel_rfl) (by kernel_rfl)) ?_
  intro W base args ds gs before hval0 hW hcnd _
  have hval : ∀ (j : Nat) t v, Try.f20.params[j]? = some t → args[j]? = some v → Value.okWide Try.prog W .any base t v := hval0
  have hW' := hW
  obtain ⟨p, q, hA0, hV, rfl, hfz, hnd⟩ := hW
  have hA : DataW.TrodAll enc Try.prog W 0 (fun _ => true) true Try.f20.params.toList args.toList ds p := hA0
  rw [Try.params20] at hA hval
  obtain ⟨v0, d0, rfl, rfl, h0⟩ := trodAll_one hA
  obtain ⟨rfl, rfl⟩ := trodVars_none hV
  have k0 := h0
  have lt0 : ∀ x ∈ p, x.block < W.heap.size := by obtain ⟨m, hm⟩ := k0; exact DataW.trod_lt m _ _ _ hm
  obtain ⟨pr, dv, mv, xs, ys, rfl, hcx, hdl, hml⟩ := complex_of_trod (hval 0 25 v0 rfl rfl) h0
  clear hA0 hval0
  refine (lawIdl_any pr dv mv xs ys W hcx hdl hml).mono fun e W' ⟨he, bel⟩ => ?_
  subst he
  exact ⟨_, rfl, _, _, _, [], _, [], hW', trodAll_mk1 (shut_bool Try.underlying4 _), trodAll_mk1 (Below.trod Try.laidOut (by kernel_rfl) (of_decide_eq_true (by kernel_rfl)) k0 bel lt0), rfl, bel.frame _, fun h => by cases h⟩

set_option maxRecDepth 100000 in
theorem idl_unf : Try.checked.prog.unfollowed 20 = false := by kernel_rfl
theorem idl_rec : Try.checked.prog.recurses 20 = false := Try.recurses idl_unf
set_option maxRecDepth 100000 in
set_option maxHeartbeats 40000000 in
theorem idl_facts : joinedFacts Try.checked.prog 20 Try.f20 Rows.fnExactIdentityMapSpec Rows.fnExactIdentityMapRow = true := by
  unfold joinedFacts
  simp only [Try.mayEnter, Try.liftsFinal, Try.make, idl_rec, idl_unf, Bool.and_eq_true]
  and_intros
  all_goals first | exact trivial | (as_aux_lemma => kernel_rfl)

theorem idl_named : Try.checked.prog.funcNamed Rows.fnExactIdentityMapRow.func = some 20 := by kernel_rfl
theorem idl_inst : Try.f20.isInstance Try.checked.prog Rows.fnExactIdentityMapRow.origin Rows.fnExactIdentityMapRow.targs := of_decide_eq_true (by kernel_rfl)
theorem idl_wrap : Try.f20.isWrapper Try.checked.prog Rows.fnExactIdentityMapRow.wrapper Rows.fnExactIdentityMapRow.mainSum := by
  unfold Func.isWrapper
  first | (rw [if_pos (by decide +kernel)]; kernel_rfl) | (rw [if_neg (by decide +kernel)]; exact ⟨rfl, rfl⟩)

set_option maxHeartbeats 2000000 in
theorem idl_over : Rows.fnExactIdentityMapRow.holds Try.pinned (OpenSpec.ofChange Rows.fnExactIdentityMapSpec) :=
  OpenClaim.holds_of_wide 20 Try.f20 rfl rfl rfl rfl rfl rfl rfl ⟨rfl, rfl, rfl, rfl, rfl⟩ rfl rfl rfl rfl rfl idl_named Try.func20 idl_facts
    idl_inst idl_wrap (fun os started H enc _ => idl_lifted os started H enc)

theorem idl_proved : Rows.FnExactIdentityMapSaid := idl_over
#print axioms idl_proved
end Go.Proofs.Ytpdkfidmmjlmnaa
