/-
  FnExactPageNumber: for every filtered complex value, page, degree and level that come in (whatever their numbers, sizes and sharing), the law's call returns true and leaves the arguments as they were. No condition.
-/
import Derived.Test.YtpdkfidmmjlmnabLawPno
import Derived.Test.YtpdkfidmmjlmnabQh
namespace Go.Proofs.Ytpdkfidmmjlmnab
open Go.ChangeShapes Go.WideShapes Go.ChangeAt Go.RowKit

set_option maxRecDepth 100000 in
theorem pno_lifted (os : Os) (started : os.Started) (H : Type) (enc : TypeId × Value → H) :
    ReturnsInHanded {} Try.checked os 6 .any (Rows.fnExactPageNumberSpec.pre6 enc Try.prog Try.f6 Rows.fnExactPageNumberRow.domain false) (Rows.fnExactPageNumberSpec.post enc Try.prog Try.f6 false true false false) := by
  refine returnsInHanded_of_change (C := Try.checked) Try.own started (by kernel_rfl) Try.func6
    (ChangeSpec.witness6 (enc := enc) (C := Try.checked) false ⟨#[], #[.agg #[.int .i64 0, .slice none 0 0, .slice none 0 0, .slice none 0 0], .int .i64 0, .int .i64 0, .int .i64 0], []⟩ 8 (by kernel_rfl) (by kernel_rfl) (by kernel_rfl) (by kernel_rfl)) ?_
  intro W base args ds gs before hval0 hW hcnd _
  have hval : ∀ (j : Nat) t v, Try.f6.params[j]? = some t → args[j]? = some v → Value.okWide Try.prog W .any base t v := hval0
  have hW' := hW
  obtain ⟨p, q, hA0, hV, rfl, hfz, hnd⟩ := hW
  have hA : DataW.TrodAll enc Try.prog W 0 (fun _ => true) true Try.f6.params.toList args.toList ds p := hA0
  rw [Try.params6] at hA hval
  obtain ⟨v0, v1, v2, v3, d0, d1, d2, d3, p0, p1, p2, p3, rfl, rfl, rfl, h0, h1, h2, h3⟩ := trodAll_four hA
  obtain ⟨rfl, rfl⟩ := trodVars_none hV
  have k0 := h0
  have lt0 : ∀ x ∈ p0, x.block < W.heap.size := by obtain ⟨m, hm⟩ := k0; exact DataW.trod_lt m _ _ _ hm
  obtain ⟨pr, dv, mv, lv, xs, ys, zs, rfl, hfi, hdl, hml, hll⟩ := filtered_of_trod (hval 0 28 v0 rfl rfl) h0
  obtain ⟨n1, rfl, rfl, rfl, wn1⟩ := open_int Try.underlying2 (hval 1 2 v1 rfl rfl) h1
  obtain ⟨n2, rfl, rfl, rfl, wn2⟩ := open_int Try.underlying2 (hval 2 2 v2 rfl rfl) h2
  obtain ⟨n3, rfl, rfl, rfl, wn3⟩ := open_int Try.underlying2 (hval 3 2 v3 rfl rfl) h3
  clear hA0 hval0
  refine (lawPno_any pr n1 n2 n3 dv mv lv xs ys zs W hfi hdl hml hll).mono fun e W' ⟨he, bel⟩ => ?_
  subst he
  exact ⟨_, rfl, _, _, _, [], _, [], hW', trodAll_mk1 (shut_bool Try.underlying4 _), trodAll_mk4 (Below.trod Try.laidOut (by kernel_rfl) (of_decide_eq_true (by kernel_rfl)) k0 bel lt0) (shut_int Try.underlying2 wn1) (shut_int Try.underlying2 wn2) (shut_int Try.underlying2 wn3), rfl, bel.frame _, fun h => by cases h⟩

set_option maxRecDepth 100000 in
theorem pno_unf : Try.checked.prog.unfollowed 6 = false := by kernel_rfl
theorem pno_rec : Try.checked.prog.recurses 6 = false := Try.recurses pno_unf
set_option maxRecDepth 100000 in
set_option maxHeartbeats 40000000 in
theorem pno_facts : joinedFacts Try.checked.prog 6 Try.f6 Rows.fnExactPageNumberSpec Rows.fnExactPageNumberRow = true := by
  unfold joinedFacts
  simp only [Try.mayEnter, Try.liftsFinal, Try.make, pno_rec, pno_unf, Bool.and_eq_true]
  and_intros
  all_goals first | exact trivial | (as_aux_lemma => kernel_rfl)

theorem pno_named : Try.checked.prog.funcNamed Rows.fnExactPageNumberRow.func = some 6 := by kernel_rfl
theorem pno_inst : Try.f6.isInstance Try.checked.prog Rows.fnExactPageNumberRow.origin Rows.fnExactPageNumberRow.targs := of_decide_eq_true (by kernel_rfl)
theorem pno_wrap : Try.f6.isWrapper Try.checked.prog Rows.fnExactPageNumberRow.wrapper Rows.fnExactPageNumberRow.mainSum := by
  unfold Func.isWrapper
  first | (rw [if_pos (by decide +kernel)]; kernel_rfl) | (rw [if_neg (by decide +kernel)]; exact ⟨rfl, rfl⟩)

set_option maxHeartbeats 2000000 in
theorem pno_over : Rows.fnExactPageNumberRow.holds Try.pinned (OpenSpec.ofChange Rows.fnExactPageNumberSpec) :=
  OpenClaim.holds_of_wide 6 Try.f6 rfl rfl rfl rfl rfl rfl rfl ⟨rfl, rfl, rfl, rfl, rfl⟩ rfl rfl rfl rfl rfl pno_named Try.func6 pno_facts
    pno_inst pno_wrap (fun os started H enc _ => pno_lifted os started H enc)

theorem pno_proved : Rows.FnExactPageNumberSaid := pno_over
#print axioms pno_proved
end Go.Proofs.Ytpdkfidmmjlmnab
