/-
  FnExactPageTable: for every filtered complex value and page that come in (whatever their numbers, sizes and sharing), the law's call returns true and leaves the arguments as they were. No condition.
-/
import Derived.Test.YtpdkfidmmjlmnabLawPtl
import Derived.Test.YtpdkfidmmjlmnabQh
namespace Go.Proofs.Ytpdkfidmmjlmnab
open Go.ChangeShapes Go.WideShapes Go.ChangeAt Go.RowKit

set_option maxRecDepth 100000 in
theorem ptl_lifted (os : Os) (started : os.Started) (H : Type) (enc : TypeId × Value → H) :
    ReturnsInHanded {} Try.checked os 7 .any (Rows.fnExactPageTableSpec.pre6 enc Try.prog Try.f7 Rows.fnExactPageTableRow.domain false) (Rows.fnExactPageTableSpec.post enc Try.prog Try.f7 false true false false) := by
  refine returnsInHanded_of_change (C := Try.checked) Try.own started (by kernel_rfl) Try.func7
    (ChangeSpec.witness6 (enc := enc) (C := Try.checked) false ⟨#[], #[.agg #[.int .i64 0, .slice none 0 0, .slice none 0 0, .slice none 0 0], .int .i64 0], []⟩ 8 (by kernel_rfl) (by kernel_rfl) (by kernel_rfl) (by kernel_rfl)) ?_
  intro W base args ds gs before hval0 hW hcnd _
  have hval : ∀ (j : Nat) t v, Try.f7.params[j]? = some t → args[j]? = some v → Value.okWide Try.prog W .any base t v := hval0
  have hW' := hW
  obtain ⟨p, q, hA0, hV, rfl, hfz, hnd⟩ := hW
  have hA : DataW.TrodAll enc Try.prog W 0 (fun _ => true) true Try.f7.params.toList args.toList ds p := hA0
  rw [Try.params7] at hA hval
  obtain ⟨v0, v1, d0, d1, p0, p1, rfl, rfl, rfl, h0, h1⟩ := trodAll_two hA
  obtain ⟨rfl, rfl⟩ := trodVars_none hV
  have k0 := h0
  have lt0 : ∀ x ∈ p0, x.block < W.heap.size := by obtain ⟨m, hm⟩ := k0; exact DataW.trod_lt m _ _ _ hm
  obtain ⟨pr, dv, mv, lv, xs, ys, zs, rfl, hfi, hdl, hml, hll⟩ := filtered_of_trod (hval 0 28 v0 rfl rfl) h0
  obtain ⟨n1, rfl, rfl, rfl, wn1⟩ := open_int Try.underlying2 (hval 1 2 v1 rfl rfl) h1
  clear hA0 hval0
  refine (lawPtl_any pr n1 dv mv lv xs ys zs W hfi hdl hml hll).mono fun e W' ⟨he, bel⟩ => ?_
  subst he
  exact ⟨_, rfl, _, _, _, [], _, [], hW', trodAll_mk1 (shut_bool Try.underlying4 _), trodAll_mk2 (Below.trod Try.laidOut (by kernel_rfl) (of_decide_eq_true (by kernel_rfl)) k0 bel lt0) (shut_int Try.underlying2 wn1), rfl, bel.frame _, fun h => by cases h⟩

set_option maxRecDepth 100000 in
theorem ptl_unf : Try.checked.prog.unfollowed 7 = true := by kernel_rfl
theorem ptl_rec : Try.checked.prog.recurses 7 = true := by
  unfold Program.recurses
  rw [ptl_unf, Bool.true_or]
set_option maxRecDepth 100000 in
set_option maxHeartbeats 40000000 in
theorem ptl_facts : joinedFacts Try.checked.prog 7 Try.f7 Rows.fnExactPageTableSpec Rows.fnExactPageTableRow = true := by
  unfold joinedFacts
  simp only [Try.mayEnter, Try.liftsFinal, Try.make, ptl_rec, ptl_unf, Bool.and_eq_true]
  and_intros
  all_goals first | exact trivial | (as_aux_lemma => kernel_rfl)

theorem ptl_named : Try.checked.prog.funcNamed Rows.fnExactPageTableRow.func = some 7 := by kernel_rfl
theorem ptl_inst : Try.f7.isInstance Try.checked.prog Rows.fnExactPageTableRow.origin Rows.fnExactPageTableRow.targs := of_decide_eq_true (by kernel_rfl)
theorem ptl_wrap : Try.f7.isWrapper Try.checked.prog Rows.fnExactPageTableRow.wrapper Rows.fnExactPageTableRow.mainSum := by
  unfold Func.isWrapper
  first | (rw [if_pos (by decide +kernel)]; kernel_rfl) | (rw [if_neg (by decide +kernel)]; exact ⟨rfl, rfl⟩)

set_option maxHeartbeats 2000000 in
theorem ptl_over : Rows.fnExactPageTableRow.holds Try.pinned (OpenSpec.ofChange Rows.fnExactPageTableSpec) :=
  OpenClaim.holds_of_wide 7 Try.f7 rfl rfl rfl rfl rfl rfl rfl ⟨rfl, rfl, rfl, rfl, rfl⟩ rfl rfl rfl rfl rfl ptl_named Try.func7 ptl_facts
    ptl_inst ptl_wrap (fun os started H enc _ => ptl_lifted os started H enc)

theorem ptl_proved : Rows.FnExactPageTableSaid := ptl_over
#print axioms ptl_proved
end Go.Proofs.Ytpdkfidmmjlmnab
