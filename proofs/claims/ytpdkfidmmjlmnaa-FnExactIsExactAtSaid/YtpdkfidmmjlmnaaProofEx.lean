/-
  FnExactIsExactAt: for every complex value and degree that come in (whatever their numbers, sizes and sharing), the law's call returns true and leaves the arguments as they were. No condition.
-/
import Derived.Test.YtpdkfidmmjlmnaaLawEx
import Derived.Test.YtpdkfidmmjlmnaaQh
namespace Go.Proofs.Ytpdkfidmmjlmnaa
open Go.ChangeShapes Go.WideShapes Go.ChangeAt Go.RowKit

set_option maxRecDepth 100000 in
theorem ex_lifted (os : Os) (started : os.Started) (H : Type) (enc : TypeId × Value → H) :
    ReturnsInHanded {} Try.checked os 9 .any (Rows.fnExactIsExactAtSpec.pre6 enc Try.prog Try.f9 Rows.fnExactIsExactAtRow.domain false) (Rows.fnExactIsExactAtSpec.post enc Try.prog Try.f9 false true false false) := by
  refine returnsInHanded_of_change (C := Try.checked) Try.own started (by kernel_rfl) Try.func9
    (ChangeSpec.witness6 (enc := enc) (C := Try.checked) false ⟨#[], #[.agg #[.int .i64 0, .slice none 0 0, .slice none 0 0], .int .i64 0], []⟩ 8 (by kernel_rfl) (by kernel_rfl) (by kernel_rfl) (by kernel_rfl)) ?_
  intro W base args ds gs before hval0 hW hcnd _
  have hval : ∀ (j : Nat) t v, Try.f9.params[j]? = some t → args[j]? = some v → Value.okWide Try.prog W .any base t v := hval0
  have hW' := hW
  obtain ⟨p, q, hA0, hV, rfl, hfz, hnd⟩ := hW
  have hA : DataW.TrodAll enc Try.prog W 0 (fun _ => true) true Try.f9.params.toList args.toList ds p := hA0
  rw [Try.params9] at hA hval
  obtain ⟨v0, v1, d0, d1, p0, p1, rfl, rfl, rfl, h0, h1⟩ := trodAll_two hA
  obtain ⟨rfl, rfl⟩ := trodVars_none hV
  have k0 := h0
  have lt0 : ∀ x ∈ p0, x.block < W.heap.size := by obtain ⟨m, hm⟩ := k0; exact DataW.trod_lt m _ _ _ hm
  obtain ⟨pr, dv, mv, xs, ys, rfl, hcx, hdl, hml⟩ := complex_of_trod (hval 0 25 v0 rfl rfl) h0
  obtain ⟨n, rfl, rfl, rfl, wn⟩ := open_int Try.underlying2 (hval 1 2 v1 rfl rfl) h1
  clear hA0 hval0
  refine (lawEx_any pr n dv mv xs ys W hcx hdl hml).mono fun e W' ⟨he, bel⟩ => ?_
  subst he
  exact ⟨_, rfl, _, _, _, [], _, [], hW', trodAll_mk1 (shut_bool Try.underlying4 _), trodAll_mk2 (Below.trod Try.laidOut (by kernel_rfl) (of_decide_eq_true (by kernel_rfl)) k0 bel lt0) (shut_int Try.underlying2 wn), rfl, bel.frame _, fun h => by cases h⟩

set_option maxRecDepth 100000 in
theorem ex_unf : Try.checked.prog.unfollowed 9 = false := by kernel_rfl
theorem ex_rec : Try.checked.prog.recurses 9 = false := Try.recurses ex_unf
set_option maxRecDepth 100000 in
set_option maxHeartbeats 40000000 in
theorem ex_facts : joinedFacts Try.checked.prog 9 Try.f9 Rows.fnExactIsExactAtSpec Rows.fnExactIsExactAtRow = true := by
  unfold joinedFacts
  simp only [Try.mayEnter, Try.liftsFinal, Try.make, ex_rec, ex_unf, Bool.and_eq_true]
  and_intros
  all_goals first | exact trivial | (as_aux_lemma => kernel_rfl)

theorem ex_named : Try.checked.prog.funcNamed Rows.fnExactIsExactAtRow.func = some 9 := by kernel_rfl
theorem ex_inst : Try.f9.isInstance Try.checked.prog Rows.fnExactIsExactAtRow.origin Rows.fnExactIsExactAtRow.targs := of_decide_eq_true (by kernel_rfl)
theorem ex_wrap : Try.f9.isWrapper Try.checked.prog Rows.fnExactIsExactAtRow.wrapper Rows.fnExactIsExactAtRow.mainSum := by
  unfold Func.isWrapper
  first | (rw [if_pos (by decide +kernel)]; kernel_rfl) | (rw [if_neg (by decide +kernel)]; exact ⟨rfl, rfl⟩)

set_option maxHeartbeats 2000000 in
theorem ex_over : Rows.fnExactIsExactAtRow.holds Try.pinned (OpenSpec.ofChange Rows.fnExactIsExactAtSpec) :=
  OpenClaim.holds_of_wide 9 Try.f9 rfl rfl rfl rfl rfl rfl rfl ⟨rfl, rfl, rfl, rfl, rfl⟩ rfl rfl rfl rfl rfl ex_named Try.func9 ex_facts
    ex_inst ex_wrap (fun os started H enc _ => ex_lifted os started H enc)

theorem ex_proved : Rows.FnExactIsExactAtSaid := ex_over
#print axioms ex_proved
end Go.Proofs.Ytpdkfidmmjlmnaa
