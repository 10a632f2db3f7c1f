/-
  FnExactHomologyList: for every complex value and degree that come in (whatever their numbers, sizes and sharing), the law's call returns true and leaves the arguments as they were. No condition.
-/
import Derived.Test.YtpdkfidmmjlmnaaLawHl
import Derived.Test.YtpdkfidmmjlmnaaQh
namespace Go.Proofs.Ytpdkfidmmjlmnaa
open Go.ChangeShapes Go.WideShapes Go.ChangeAt Go.RowKit

set_option maxRecDepth 100000 in
theorem hl_lifted (os : Os) (started : os.Started) (H : Type) (enc : TypeId × Value → H) :
    ReturnsInHanded {} Try.checked os 8 .any (Rows.fnExactHomologyListSpec.pre6 enc Try.prog Try.f8 Rows.fnExactHomologyListRow.domain false) (Rows.fnExactHomologyListSpec.post enc Try.prog Try.f8 false true false false) := by
  refine returnsInHanded_of_change (C := Try.checked) Try.own started (by kernel_rfl) Try.func8
    (ChangeSpec.witness6 (enc := enc) (C := Try.checked) false ⟨#[], #[.agg #[.int .i64 0, .slice none 0 0, .slice none 0 0], .int .i64 0], []⟩ 8 (by kernel_rfl) (by kernel_rfl) (by kernel_rfl) (by kernel_rfl)) ?_
  intro W base args ds gs before hval0 hW hcnd _
  have hval : ∀ (j : Nat) t v, Try.f8.params[j]? = some t → args[j]? = some v → Value.okWide Try.prog W .any base t v := hval0
  have hW' := hW
  obtain ⟨p, q, hA0, hV, rfl, hfz, hnd⟩ := hW
  have hA : DataW.TrodAll enc Try.prog W 0 (fun _ => true) true Try.f8.params.toList args.toList ds p := hA0
  rw [Try.params8] at hA hval
  obtain ⟨v0, v1, d0, d1, p0, p1, rfl, rfl, rfl, h0, h1⟩ := trodAll_two hA
  obtain ⟨rfl, rfl⟩ := trodVars_none hV
  have k0 := h0
  have lt0 : ∀ x ∈ p0, x.block < W.heap.size := by obtain ⟨m, hm⟩ := k0; exact DataW.trod_lt m _ _ _ hm
  obtain ⟨pr, dv, mv, xs, ys, rfl, hcx, hdl, hml⟩ := complex_of_trod (hval 0 25 v0 rfl rfl) h0
  obtain ⟨n, rfl, rfl, rfl, wn⟩ := open_int Try.underlying2 (hval 1 2 v1 rfl rfl) h1
  clear hA0 hval0
  refine (lawHl_any pr n dv mv xs ys W hcx hdl hml).mono fun e W' ⟨he, bel⟩ => ?_
  subst he
  exact ⟨_, rfl, _, _, _, [], _, [], hW', trodAll_mk1 (shut_bool Try.underlying4 _), trodAll_mk2 (Below.trod Try.laidOut (by kernel_rfl) (of_decide_eq_true (by kernel_rfl)) k0 bel lt0) (shut_int Try.underlying2 wn), rfl, bel.frame _, fun h => by cases h⟩

set_option maxRecDepth 100000 in
theorem hl_unf : Try.checked.prog.unfollowed 8 = true := by kernel_rfl
theorem hl_rec : Try.checked.prog.recurses 8 = true := by
  unfold Program.recurses
  rw [hl_unf, Bool.true_or]
set_option maxRecDepth 100000 in
set_option maxHeartbeats 40000000 in
theorem hl_facts : joinedFacts Try.checked.prog 8 Try.f8 Rows.fnExactHomologyListSpec Rows.fnExactHomologyListRow = true := by
  unfold joinedFacts
  simp only [Try.mayEnter, Try.liftsFinal, Try.make, hl_rec, hl_unf, Bool.and_eq_true]
  and_intros
  all_goals first | exact trivial | (as_aux_lemma => kernel_rfl)

theorem hl_named : Try.checked.prog.funcNamed Rows.fnExactHomologyListRow.func = some 8 := by kernel_rfl
theorem hl_inst : Try.f8.isInstance Try.checked.prog Rows.fnExactHomologyListRow.origin Rows.fnExactHomologyListRow.targs := of_decide_eq_true (by kernel_rfl)
theorem hl_wrap : Try.f8.isWrapper Try.checked.prog Rows.fnExactHomologyListRow.wrapper Rows.fnExactHomologyListRow.mainSum := by
  unfold Func.isWrapper
  first | (rw [if_pos (by decide +kernel)]; kernel_rfl) | (rw [if_neg (by decide +kernel)]; exact ⟨rfl, rfl⟩)

set_option maxHeartbeats 2000000 in
theorem hl_over : Rows.fnExactHomologyListRow.holds Try.pinned (OpenSpec.ofChange Rows.fnExactHomologyListSpec) :=
  OpenClaim.holds_of_wide 8 Try.f8 rfl rfl rfl rfl rfl rfl rfl ⟨rfl, rfl, rfl, rfl, rfl⟩ rfl rfl rfl rfl rfl hl_named Try.func8 hl_facts
    hl_inst hl_wrap (fun os started H enc _ => hl_lifted os started H enc)

theorem hl_proved : Rows.FnExactHomologyListSaid := hl_over
#print axioms hl_proved
end Go.Proofs.Ytpdkfidmmjlmnaa
