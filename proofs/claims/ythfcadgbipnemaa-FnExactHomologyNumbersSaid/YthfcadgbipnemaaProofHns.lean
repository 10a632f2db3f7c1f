/-
  FnExactHomologyNumbers: for every complex value that comes in (whatever its numbers, sizes and sharing), the law's call returns true and leaves the argument as it was. No condition.
-/
import Derived.Test.YthfcadgbipnemaaLawHns
import Derived.Test.YthfcadgbipnemaaQh
namespace Go.Proofs.Ythfcadgbipnemaa
open Go.ChangeShapes Go.WideShapes Go.ChangeAt Go.RowKit

set_option maxRecDepth 100000 in
theorem hns_lifted (os : Os) (started : os.Started) (H : Type) (enc : TypeId × Value → H) :
    ReturnsInHanded {} Try.checked os 12 .any (Rows.fnExactHomologyNumbersSpec.pre6 enc Try.prog Try.f12 Rows.fnExactHomologyNumbersRow.domain false) (Rows.fnExactHomologyNumbersSpec.post enc Try.prog Try.f12 false true false false) := by
  refine returnsInHanded_of_change (C := Try.checked) Try.own started (by kernel_rfl) Try.func12
    (ChangeSpec.witness6 (enc := enc) (C := Try.checked) false ⟨#[], #[.agg #[.int .i64 0, .slice none 0 0, .slice none 0 0]], []⟩ 8 (by kernel_rfl) (by kernel_rfl) (by kernel_rfl) (by kernel_rfl)) ?_
  intro W base args ds gs before hval0 hW hcnd _
  have hval : ∀ (j : Nat) t v, Try.f12.params[j]? = some t → args[j]? = some v → Value.okWide Try.prog W .any base t v := hval0
  have hW' := hW
  obtain ⟨p, q, hA0, hV, rfl, hfz, hnd⟩ := hW
  have hA : DataW.TrodAll enc Try.prog W 0 (fun _ => true) true Try.f12.params.toList args.toList ds p := hA0
  rw [Try.params12] at hA hval
  obtain ⟨v0, d0, rfl, rfl, h0⟩ := trodAll_one hA
  obtain ⟨rfl, rfl⟩ := trodVars_none hV
  have k0 := h0
  have lt0 : ∀ x ∈ p, x.block < W.heap.size := by obtain ⟨m, hm⟩ := k0; exact DataW.trod_lt m _ _ _ hm
  obtain ⟨pr, dv, mv, xs, ys, rfl, hcx, hdl, hml⟩ := complex_of_trod (hval 0 25 v0 rfl rfl) h0
  clear hA0 hval0
  refine (lawHns_any pr dv mv xs ys W hcx hdl hml).mono fun e W' ⟨he, bel⟩ => ?_
  subst he
  exact ⟨_, rfl, _, _, _, [], _, [], hW', trodAll_mk1 (shut_bool Try.underlying4 _), trodAll_mk1 (Below.trod Try.laidOut (by kernel_rfl) (of_decide_eq_true (by kernel_rfl)) k0 bel lt0), rfl, bel.frame _, fun h => by cases h⟩

set_option maxRecDepth 100000 in
theorem hns_unf : Try.checked.prog.unfollowed 12 = false := by kernel_rfl
theorem hns_rec : Try.checked.prog.recurses 12 = false := Try.recurses hns_unf
set_option maxRecDepth 100000 in
set_option maxHeartbeats 40000000 in
theorem hns_facts : joinedFacts Try.checked.prog 12 Try.f12 Rows.fnExactHomologyNumbersSpec Rows.fnExactHomologyNumbersRow = true := by
  unfold joinedFacts
  simp only [Try.mayEnter, Try.liftsFinal, Try.make, hns_rec, hns_unf, Bool.and_eq_true]
  and_intros
  all_goals first | exact trivial | (as_aux_lemma => kernel_rfl)

theorem hns_named : Try.checked.prog.funcNamed Rows.fnExactHomologyNumbersRow.func = some 12 := by kernel_rfl
theorem hns_inst : Try.f12.isInstance Try.checked.prog Rows.fnExactHomologyNumbersRow.origin Rows.fnExactHomologyNumbersRow.targs := of_decide_eq_true (by kernel_rfl)
theorem hns_wrap : Try.f12.isWrapper Try.checked.prog Rows.fnExactHomologyNumbersRow.wrapper Rows.fnExactHomologyNumbersRow.mainSum := by
  unfold Func.isWrapper
  first | (rw [if_pos (by decide +kernel)]; kernel_rfl) | (rw [if_neg (by decide +kernel)]; exact ⟨rfl, rfl⟩)

set_option maxHeartbeats 2000000 in
theorem hns_over : Rows.fnExactHomologyNumbersRow.holds Try.pinned (OpenSpec.ofChange Rows.fnExactHomologyNumbersSpec) :=
  OpenClaim.holds_of_wide 12 Try.f12 rfl rfl rfl rfl rfl rfl rfl ⟨rfl, rfl, rfl, rfl, rfl⟩ rfl rfl rfl rfl rfl hns_named Try.func12 hns_facts
    hns_inst hns_wrap (fun os started H enc _ => hns_lifted os started H enc)

theorem hns_proved : Rows.FnExactHomologyNumbersSaid := hns_over
#print axioms hns_proved
end Go.Proofs.Ythfcadgbipnemaa
