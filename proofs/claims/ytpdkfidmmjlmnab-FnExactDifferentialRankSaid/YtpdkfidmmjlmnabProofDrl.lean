/-
  FnExactDifferentialRank: for every filtered complex value, page, degree and level that come in (whatever their numbers, sizes and sharing), the law's call returns true and leaves the arguments as they were. No condition.
-/
import Derived.Test.YtpdkfidmmjlmnabLawDrl
import Derived.Test.YtpdkfidmmjlmnabQh
namespace Go.Proofs.Ytpdkfidmmjlmnab
open Go.ChangeShapes Go.WideShapes Go.ChangeAt Go.RowKit

set_option maxRecDepth 100000 in
theorem drl_lifted (os : Os) (started : os.Started) (H : Type) (enc : TypeId × Value → H) :
    ReturnsInHanded {} Try.checked os 10 .any (Rows.fnExactDifferentialRankSpec.pre6 enc Try.prog Try.f10 Rows.fnExactDifferentialRankRow.domain false) (Rows.fnExactDifferentialRankSpec.post enc Try.prog Try.f10 false true false false) := by
  refine returnsInHanded_of_change (C := Try.checked) Try.own started (by kernel_rfl) Try.func10
    (ChangeSpec.witness6 (enc := enc) (C := Try.checked) false ⟨#[], #[.agg #[.int .i64 0, .slice none 0 0, .slice none 0 0, .slice none 0 0], .int .i64 0, .int .i64 0, .int .i64 0], []⟩ 8 (by kernel_rfl) (by kernel_rfl) (by kernel_rfl) (by kernel_rfl)) ?_
  intro W base args ds gs before hval0 hW hcnd _
  have hval : ∀ (j : Nat) t v, Try.f10.params[j]? = some t → args[j]? = some v → Value.okWide Try.prog W .any base t v := hval0
  have hW' := hW
  obtain ⟨p, q, hA0, hV, rfl, hfz, hnd⟩ := hW
  have hA : DataW.TrodAll enc Try.prog W 0 (fun _ => true) true Try.f10.params.toList args.toList ds p := hA0
  rw [Try.params10] at hA hval
  obtain ⟨v0, v1, v2, v3, d0, d1, d2, d3, p0, p1, p2, p3, rfl, rfl, rfl, h0, h1, h2, h3⟩ := trodAll_four hA
  obtain ⟨rfl, rfl⟩ := trodVars_none hV
  have k0 := h0
  have lt0 : ∀ x ∈ p0, x.block < W.heap.size := by obtain ⟨m, hm⟩ := k0; exact DataW.trod_lt m _ _ _ hm
  obtain ⟨pr, dv, mv, lv, xs, ys, zs, rfl, hfi, hdl, hml, hll⟩ := filtered_of_trod (hval 0 28 v0 rfl rfl) h0
  obtain ⟨n1, rfl, rfl, rfl, wn1⟩ := open_int Try.underlying2 (hval 1 2 v1 rfl rfl) h1
  obtain ⟨n2, rfl, rfl, rfl, wn2⟩ := open_int Try.underlying2 (hval 2 2 v2 rfl rfl) h2
  obtain ⟨n3, rfl, rfl, rfl, wn3⟩ := open_int Try.underlying2 (hval 3 2 v3 rfl rfl) h3
  clear hA0 hval0
  refine (lawDrl_any pr n1 n2 n3 dv mv lv xs ys zs W hfi hdl hml hll).mono fun e W' ⟨he, bel⟩ => ?_
  subst he
  exact ⟨_, rfl, _, _, _, [], _, [], hW', trodAll_mk1 (shut_bool Try.underlying4 _), trodAll_mk4 (Below.trod Try.laidOut (by kernel_rfl) (of_decide_eq_true (by kernel_rfl)) k0 bel lt0) (shut_int Try.underlying2 wn1) (shut_int Try.underlying2 wn2) (shut_int Try.underlying2 wn3), rfl, bel.frame _, fun h => by cases h⟩

set_option maxRecDepth 100000 in
theorem drl_unf : Try.checked.prog.unfollowed 10 = false := by kernel_rfl
theorem drl_rec : Try.checked.prog.recurses 10 = false := Try.recurses drl_unf
set_option maxRecDepth 100000 in
set_option maxHeartbeats 40000000 in
theorem drl_facts : joinedFacts Try.checked.prog 10 Try.f10 Rows.fnExactDifferentialRankSpec Rows.fnExactDifferentialRankRow = true := by
  unfold joinedFacts
  simp only [Try.mayEnter, Try.liftsFinal, Try.make, drl_rec, drl_unf, Bool.and_eq_true]
  and_intros
  all_goals first | exact trivial | (as_aux_lemma => kernel_rfl)

theorem drl_named : Try.checked.prog.funcNamed Rows.fnExactDifferentialRankRow.func = some 10 := by kernel_rfl
theorem drl_inst : Try.f10.isInstance Try.checked.prog Rows.fnExactDifferentialRankRow.origin Rows.fnExactDifferentialRankRow.targs := of_decide_eq_true (by kernel_rfl)
theorem drl_wrap : Try.f10.isWrapper Try.checked.prog Rows.fnExactDifferentialRankRow.wrapper Rows.fnExactDifferentialRankRow.mainSum := by
  unfold Func.isWrapper
  first | (rw [if_pos (by decide +kernel)]; kernel_rfl) | (rw [if_neg (by decide +kernel)]; exact ⟨rfl, rfl⟩)

set_option maxHeartbeats 2000000 in
theorem drl_over : Rows.fnExactDifferentialRankRow.holds Try.pinned (OpenSpec.ofChange Rows.fnExactDifferentialRankSpec) :=
  OpenClaim.holds_of_wide 10 Try.f10 rfl rfl rfl rfl rfl rfl rfl ⟨rfl, rfl, rfl, rfl, rfl⟩ rfl rfl rfl rfl rfl drl_named Try.func10 drl_facts
    drl_inst drl_wrap (fun os started H enc _ => drl_lifted os started H enc)

theorem drl_proved : Rows.FnExactDifferentialRankSaid := drl_over
#print axioms drl_proved
end Go.Proofs.Ytpdkfidmmjlmnab
