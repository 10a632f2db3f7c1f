/-
  FnExactHomologyComplex: for every complex value that comes in (whatever its numbers, sizes and sharing), the law's call returns true and leaves the argument as it was. No condition.
-/
import Derived.Test.YthfcadgbipnemaaLawHcl
import Derived.Test.YthfcadgbipnemaaQh
namespace Go.Proofs.Ythfcadgbipnemaa
open Go.ChangeShapes Go.WideShapes Go.ChangeAt Go.RowKit

set_option maxRecDepth 100000 in
theorem hcl_lifted (os : Os) (started : os.Started) (H : Type) (enc : TypeId × Value → H) :
    ReturnsInHanded {} Try.checked os 5 .any (Rows.fnExactHomologyComplexSpec.pre6 enc Try.prog Try.f5 Rows.fnExactHomologyComplexRow.domain false) (Rows.fnExactHomologyComplexSpec.post enc Try.prog Try.f5 false true false false) := by
  refine returnsInHanded_of_change (C := Try.checked) Try.own started (by kernel_rfl) Try.func5
    (ChangeSpec.witness6 (enc := enc) (C := Try.checked) false ⟨#[], #[.agg #[.int .i64 0, .slice none 0 0, .slice none 0 0]], []⟩ 8 (by kernel_rfl) (by kernel_rfl) (by kernel_rfl) (by kernel_rfl)) ?_
  intro W base args ds gs before hval0 hW hcnd _
  have hval : ∀ (j : Nat) t v, Try.f5.params[j]? = some t → args[j]? = some v → Value.okWide Try.prog W .any base t v := hval0
  have hW' := hW
  obtain ⟨p, q, hA0, hV, rfl, hfz, hnd⟩ := hW
  have hA : DataW.TrodAll enc Try.prog W 0 (fun _ => true) true Try.f5.params.toList args.toList ds p := hA0
  rw [Try.params5] at hA hval
  obtain ⟨v0, d0, rfl, rfl, h0⟩ := trodAll_one hA
  obtain ⟨rfl, rfl⟩ := trodVars_none hV
  have k0 := h0
  have lt0 : ∀ x ∈ p, x.block < W.heap.size := by obtain ⟨m, hm⟩ := k0; exact DataW.trod_lt m _ _ _ hm
  obtain ⟨q0, dv0, mv0, xs0, ys0, rfl, hx0, hdl0, hml0⟩ := complex_of_trod (hval 0 25 v0 rfl rfl) h0
  clear hA0 hval0
  refine (lawHcl_any q0 dv0 mv0 xs0 ys0 W hx0 hdl0 hml0).mono fun e W' ⟨he, bel⟩ => ?_
  subst he
  exact ⟨_, rfl, _, _, _, [], _, [], hW', trodAll_mk1 (shut_bool Try.underlying4 _), trodAll_mk1 (Below.trod Try.laidOut (by kernel_rfl) (of_decide_eq_true (by kernel_rfl)) k0 bel lt0), rfl, bel.frame _, fun h => by cases h⟩

set_option maxRecDepth 100000 in
theorem hcl_unf : Try.checked.prog.unfollowed 5 = false := by kernel_rfl
theorem hcl_rec : Try.checked.prog.recurses 5 = false := Try.recurses hcl_unf
set_option maxRecDepth 100000 in
set_option maxHeartbeats 40000000 in
theorem hcl_facts : joinedFacts Try.checked.prog 5 Try.f5 Rows.fnExactHomologyComplexSpec Rows.fnExactHomologyComplexRow = true := by
  unfold joinedFacts
  simp only [Try.mayEnter, Try.liftsFinal, Try.make, hcl_rec, hcl_unf, Bool.and_eq_true]
  and_intros
  all_goals first | exact trivial | (as_aux_lemma => kernel_rfl)

theorem hcl_named : Try.checked.prog.funcNamed Rows.fnExactHomologyComplexRow.func = some 5 := by kernel_rfl
theorem hcl_inst : Try.f5.isInstance Try.checked.prog Rows.fnExactHomologyComplexRow.origin Rows.fnExactHomologyComplexRow.targs := of_decide_eq_true (by kernel_rfl)
theorem hcl_wrap : Try.f5.isWrapper Try.checked.prog Rows.fnExactHomologyComplexRow.wrapper Rows.fnExactHomologyComplexRow.mainSum := by
  unfold Func.isWrapper
  first | (rw [if_pos (by decide +kernel)]; kernel_rfl) | (rw [if_neg (by decide +kernel)]; exact ⟨rfl, rfl⟩)

set_option maxHeartbeats 2000000 in
theorem hcl_over : Rows.fnExactHomologyComplexRow.holds Try.pinned (OpenSpec.ofChange Rows.fnExactHomologyComplexSpec) :=
  OpenClaim.holds_of_wide 5 Try.f5 rfl rfl rfl rfl rfl rfl rfl ⟨rfl, rfl, rfl, rfl, rfl⟩ rfl rfl rfl rfl rfl hcl_named Try.func5 hcl_facts
    hcl_inst hcl_wrap (fun os started H enc _ => hcl_lifted os started H enc)

theorem hcl_proved : Rows.FnExactHomologyComplexSaid := hcl_over
#print axioms hcl_proved
end Go.Proofs.Ythfcadgbipnemaa
