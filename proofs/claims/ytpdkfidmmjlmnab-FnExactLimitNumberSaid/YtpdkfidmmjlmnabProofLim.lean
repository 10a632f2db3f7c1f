/-
  FnExactLimitNumber: for every filtered complex value, page, degree and level that come in (whatever their numbers, sizes and sharing), the law's call returns true and leaves the arguments as they were. No condition.
-/
import Derived.Test.YtpdkfidmmjlmnabLawLim
import Derived.Test.YtpdkfidmmjlmnabQh
namespace Go.Proofs.Ytpdkfidmmjlmnab
open Go.ChangeShapes Go.WideShapes Go.ChangeAt Go.RowKit

set_option maxRecDepth 100000 in
theorem lim_lifted (os : Os) (started : os.Started) (H : Type) (enc : TypeId × Value → H) :
    ReturnsInHanded {} Try.checked os 11 .any (Rows.fnExactLimitNumberSpec.pre6 enc Try.prog Try.f11 Rows.fnExactLimitNumberRow.domain false) (Rows.fnExactLimitNumberSpec.post enc Try.prog Try.f11 false true false false) := by
  refine returnsInHanded_of_change (C := Try.checked) Try.own started (by kernel_rfl) Try.func11
    (ChangeSpec.witness6 (enc := enc) (C := Try.checked) false ⟨#[], #[.agg #[.int .i64 0, .slice none 0 0, .slice none 0 0, .slice none 0 0], .int .i64 0, .int .i64 0], []⟩ 8 (by kernel_rfl) (by kernel_rfl) (by kernel_rfl) (by kernel_rfl)) ?_
  intro W base args ds gs before hval0 hW hcnd _
  have hval : ∀ (j : Nat) t v, Try.f11.params[j]? = some t → args[j]? = some v → Value.okWide Try.prog W .any base t v := hval0
  have hW' := hW
  obtain ⟨p, q, hA0, hV, rfl, hfz, hnd⟩ := hW
  have hA : DataW.TrodAll enc Try.prog W 0 (fun _ => true) true Try.f11.params.toList args.toList ds p := hA0
  rw [Try.params11] at hA hval
  obtain ⟨v0, v1, v2, d0, d1, d2, p0, p1, p2, rfl, rfl, rfl, h0, h1, h2⟩ := trodAll_three hA
  obtain ⟨rfl, rfl⟩ := trodVars_none hV
  have k0 := h0
  have lt0 : ∀ x ∈ p0, x.block < W.heap.size := by obtain ⟨m, hm⟩ := k0; exact DataW.trod_lt m _ _ _ hm
  obtain ⟨pr, dv, mv, lv, xs, ys, zs, rfl, hfi, hdl, hml, hll⟩ := filtered_of_trod (hval 0 28 v0 rfl rfl) h0
  obtain ⟨n1, rfl, rfl, rfl, wn1⟩ := open_int Try.underlying2 (hval 1 2 v1 rfl rfl) h1
  obtain ⟨n2, rfl, rfl, rfl, wn2⟩ := open_int Try.underlying2 (hval 2 2 v2 rfl rfl) h2
  clear hA0 hval0
  refine (lawLim_any pr n1 n2 dv mv lv xs ys zs W hfi hdl hml hll).mono fun e W' ⟨he, bel⟩ => ?_
  subst he
  exact ⟨_, rfl, _, _, _, [], _, [], hW', trodAll_mk1 (shut_bool Try.underlying4 _), trodAll_mk3 (Below.trod Try.laidOut (by kernel_rfl) (of_decide_eq_true (by kernel_rfl)) k0 bel lt0) (shut_int Try.underlying2 wn1) (shut_int Try.underlying2 wn2), rfl, bel.frame _, fun h => by cases h⟩

set_option maxRecDepth 100000 in
theorem lim_unf : Try.checked.prog.unfollowed 11 = false := by kernel_rfl
theorem lim_rec : Try.checked.prog.recurses 11 = false := Try.recurses lim_unf
set_option maxRecDepth 100000 in
set_option maxHeartbeats 40000000 in
theorem lim_facts : joinedFacts Try.checked.prog 11 Try.f11 Rows.fnExactLimitNumberSpec Rows.fnExactLimitNumberRow = true := by
  unfold joinedFacts
  simp only [Try.mayEnter, Try.liftsFinal, Try.make, lim_rec, lim_unf, Bool.and_eq_true]
  and_intros
  all_goals first | exact trivial | (as_aux_lemma => kernel_rfl)

theorem lim_named : Try.checked.prog.funcNamed Rows.fnExactLimitNumberRow.func = some 11 := by kernel_rfl
theorem lim_inst : Try.f11.isInstance Try.checked.prog Rows.fnExactLimitNumberRow.origin Rows.fnExactLimitNumberRow.targs := of_decide_eq_true (by kernel_rfl)
theorem lim_wrap : Try.f11.isWrapper Try.checked.prog Rows.fnExactLimitNumberRow.wrapper Rows.fnExactLimitNumberRow.mainSum := by
  unfold Func.isWrapper
  first | (rw [if_pos (by decide +kernel)]; kernel_rfl) | (rw [if_neg (by decide +kernel)]; exact ⟨rfl, rfl⟩)

set_option maxHeartbeats 2000000 in
theorem lim_over : Rows.fnExactLimitNumberRow.holds Try.pinned (OpenSpec.ofChange Rows.fnExactLimitNumberSpec) :=
  OpenClaim.holds_of_wide 11 Try.f11 rfl rfl rfl rfl rfl rfl rfl ⟨rfl, rfl, rfl, rfl, rfl⟩ rfl rfl rfl rfl rfl lim_named Try.func11 lim_facts
    lim_inst lim_wrap (fun os started H enc _ => lim_lifted os started H enc)

theorem lim_proved : Rows.FnExactLimitNumberSaid := lim_over
#print axioms lim_proved
end Go.Proofs.Ytpdkfidmmjlmnab
