/-
  FnExactReduceRows: for every two numbers and every list of rows that come in (whatever their numbers, sizes and sharing), the law's call returns true and leaves the arguments as they were. No condition.
-/
import Derived.Test.YtpdkfidmmjlmnaaLawRed
import Derived.Test.YtpdkfidmmjlmnaaQh
namespace Go.Proofs.Ytpdkfidmmjlmnaa
open Go.ChangeShapes Go.WideShapes Go.ChangeAt Go.RowKit

set_option maxRecDepth 100000 in
theorem red_lifted (os : Os) (started : os.Started) (H : Type) (enc : TypeId × Value → H) :
    ReturnsInHanded {} Try.checked os 10 .any (Rows.fnExactReduceRowsSpec.pre6 enc Try.prog Try.f10 Rows.fnExactReduceRowsRow.domain false) (Rows.fnExactReduceRowsSpec.post enc Try.prog Try.f10 false true false false) := by
  refine returnsInHanded_of_change (C := Try.checked) Try.own started (by kernel_rfl) Try.func10
    (ChangeSpec.witness6 (enc := enc) (C := Try.checked) false ⟨#[], #[.int .i64 0, .int .i64 0, .slice none 0 0], []⟩ 8 (by kernel_rfl) (by kernel_rfl) (by kernel_rfl) (by kernel_rfl)) ?_
  intro W base args ds gs before hval0 hW hcnd _
  have hval : ∀ (j : Nat) t v, Try.f10.params[j]? = some t → args[j]? = some v → Value.okWide Try.prog W .any base t v := hval0
  have hW' := hW
  obtain ⟨p, q, hA0, hV, rfl, hfz, hnd⟩ := hW
  have hA : DataW.TrodAll enc Try.prog W 0 (fun _ => true) true Try.f10.params.toList args.toList ds p := hA0
  rw [Try.params10] at hA hval
  obtain ⟨v0, v1, v2, d0, d1, d2, p0, p1, p2, rfl, rfl, rfl, h0, h1, h2⟩ := trodAll_three hA
  obtain ⟨rfl, rfl⟩ := trodVars_none hV
  have k2 := h2
  have lt2 : ∀ x ∈ p2, x.block < W.heap.size := by obtain ⟨m, hm⟩ := k2; exact DataW.trod_lt m _ _ _ hm
  obtain ⟨pr, rfl, rfl, rfl, wp⟩ := open_int Try.underlying2 (hval 0 2 v0 rfl rfl) h0
  obtain ⟨n, rfl, rfl, rfl, wn⟩ := open_int Try.underlying2 (hval 1 2 v1 rfl rfl) h1
  obtain ⟨av, lv, cv, rfl⟩ := okWide_slice Try.underlying41 (hval 2 41 v2 rfl rfl)
  obtain ⟨zs, hz, hzl⟩ : ∃ zs, L2 0 W (.slice av lv cv) zs ∧ Bd2 9223372036854775807 zs := by
    obtain ⟨fuel, hf⟩ := h2
    exact l2_of_trod hf
  clear hA0 hval0
  refine (lawRed_any pr n (.slice av lv cv) zs W hz hzl).mono fun e W' ⟨he, bel⟩ => ?_
  subst he
  exact ⟨_, rfl, _, _, _, [], _, [], hW', trodAll_mk1 (shut_bool Try.underlying4 _), trodAll_mk3 (shut_int Try.underlying2 wp) (shut_int Try.underlying2 wn) (Below.trod Try.laidOut (by kernel_rfl) (of_decide_eq_true (by kernel_rfl)) k2 bel lt2), rfl, bel.frame _, fun h => by cases h⟩

set_option maxRecDepth 100000 in
theorem red_unf : Try.checked.prog.unfollowed 10 = false := by kernel_rfl
theorem red_rec : Try.checked.prog.recurses 10 = false := Try.recurses red_unf
set_option maxRecDepth 100000 in
set_option maxHeartbeats 40000000 in
theorem red_facts : joinedFacts Try.checked.prog 10 Try.f10 Rows.fnExactReduceRowsSpec Rows.fnExactReduceRowsRow = true := by
  unfold joinedFacts
  simp only [Try.mayEnter, Try.liftsFinal, Try.make, red_rec, red_unf, Bool.and_eq_true]
  and_intros
  all_goals first | exact trivial | (as_aux_lemma => kernel_rfl)

theorem red_named : Try.checked.prog.funcNamed Rows.fnExactReduceRowsRow.func = some 10 := by kernel_rfl
theorem red_inst : Try.f10.isInstance Try.checked.prog Rows.fnExactReduceRowsRow.origin Rows.fnExactReduceRowsRow.targs := of_decide_eq_true (by kernel_rfl)
theorem red_wrap : Try.f10.isWrapper Try.checked.prog Rows.fnExactReduceRowsRow.wrapper Rows.fnExactReduceRowsRow.mainSum := by
  unfold Func.isWrapper
  first | (rw [if_pos (by decide +kernel)]; kernel_rfl) | (rw [if_neg (by decide +kernel)]; exact ⟨rfl, rfl⟩)

set_option maxHeartbeats 2000000 in
theorem red_over : Rows.fnExactReduceRowsRow.holds Try.pinned (OpenSpec.ofChange Rows.fnExactReduceRowsSpec) :=
  OpenClaim.holds_of_wide 10 Try.f10 rfl rfl rfl rfl rfl rfl rfl ⟨rfl, rfl, rfl, rfl, rfl⟩ rfl rfl rfl rfl rfl red_named Try.func10 red_facts
    red_inst red_wrap (fun os started H enc _ => red_lifted os started H enc)

theorem red_proved : Rows.FnExactReduceRowsSaid := red_over
#print axioms red_proved
end Go.Proofs.Ytpdkfidmmjlmnaa
