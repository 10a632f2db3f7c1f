/-
  FnExactFilteredTotal: for every double complex value that comes in (whatever its numbers, sizes and sharing) and both truth values, the law's call returns true and leaves the argument as it was. No condition.
-/
import Derived.Test.YtlopenephgabhaaZh7
namespace Go.Proofs.Ytlopenephgabhaa
open Go.ChangeShapes Go.WideShapes Go.ChangeAt Go.RowKit

set_option maxRecDepth 100000 in
theorem ftl_lifted (os : Os) (started : os.Started) (H : Type) (enc : TypeId × Value → H) :
    ReturnsInHanded {} Try.checked os 8 .any (Rows.fnExactFilteredTotalSpec.pre6 enc Try.prog Try.f8 Rows.fnExactFilteredTotalRow.domain false) (Rows.fnExactFilteredTotalSpec.post enc Try.prog Try.f8 false true false false) := by
  refine returnsInHanded_of_change (C := Try.checked) Try.own started (by kernel_rfl) Try.func8
    (ChangeSpec.witness6 (enc := enc) (C := Try.checked) false ⟨#[], #[.agg #[.int .i64 0, .slice none 0 0, .slice none 0 0, .slice none 0 0], .bool false], []⟩ 8 (by kernel_rfl) (by kernel_rfl) (by kernel_rfl) (by kernel_rfl)) ?_
  intro W base args ds gs before hval0 hW hcnd _
  have hval : ∀ (j : Nat) t v, Try.f8.params[j]? = some t → args[j]? = some v → Value.okWide Try.prog W .any base t v := hval0
  have hW' := hW
  obtain ⟨p, q, hA0, hV, rfl, hfz, hnd⟩ := hW
  have hA : DataW.TrodAll enc Try.prog W 0 (fun _ => true) true Try.f8.params.toList args.toList ds p := hA0
  rw [Try.params8] at hA hval
  obtain ⟨v0, v1, d0, d1, p0, p1, rfl, rfl, rfl, h0, h1⟩ := trodAll_two hA
  obtain ⟨rfl, rfl⟩ := trodVars_none hV
  have k0 := h0
  have lt0 : ∀ x ∈ p0, x.block < W.heap.size := by obtain ⟨m, hm⟩ := k0; exact DataW.trod_lt m _ _ _ hm
  obtain ⟨q0p, dv0, av0, vv0, dl0, al0, vl0, rfl, hx0, hml0⟩ := doublec_of_trod (hval 0 25 v0 rfl rfl) h0
  obtain ⟨n1, rfl, rfl, rfl⟩ := open_bool Try.underlying4 (hval 1 4 v1 rfl rfl) h1
  clear hA0 hval0
  refine (lawFtl_any q0p dv0 av0 vv0 dl0 al0 vl0 n1 W hx0 hml0).mono fun e W' ⟨he, bel⟩ => ?_
  subst he
  exact ⟨_, rfl, _, _, _, [], _, [], hW', trodAll_mk1 (shut_bool Try.underlying4 _), trodAll_mk2 (Below.trod Try.laidOut (by kernel_rfl) (of_decide_eq_true (by kernel_rfl)) k0 bel lt0) (shut_bool Try.underlying4 _), rfl, bel.frame _, fun h => by cases h⟩

set_option maxRecDepth 100000 in
theorem ftl_unf : Try.checked.prog.unfollowed 8 = true := by kernel_rfl
theorem ftl_rec : Try.checked.prog.recurses 8 = true := by
  unfold Program.recurses
  rw [ftl_unf, Bool.true_or]
set_option maxRecDepth 100000 in
set_option maxHeartbeats 40000000 in
theorem ftl_facts : joinedFacts Try.checked.prog 8 Try.f8 Rows.fnExactFilteredTotalSpec Rows.fnExactFilteredTotalRow = true := by
  unfold joinedFacts
  simp only [Try.mayEnter, Try.liftsFinal, Try.make, ftl_rec, ftl_unf, Bool.and_eq_true]
  and_intros
  all_goals first | exact trivial | (as_aux_lemma => kernel_rfl)

theorem ftl_named : Try.checked.prog.funcNamed Rows.fnExactFilteredTotalRow.func = some 8 := by kernel_rfl
theorem ftl_inst : Try.f8.isInstance Try.checked.prog Rows.fnExactFilteredTotalRow.origin Rows.fnExactFilteredTotalRow.targs := of_decide_eq_true (by kernel_rfl)
theorem ftl_wrap : Try.f8.isWrapper Try.checked.prog Rows.fnExactFilteredTotalRow.wrapper Rows.fnExactFilteredTotalRow.mainSum := by
  unfold Func.isWrapper
  first | (rw [if_pos (by decide +kernel)]; kernel_rfl) | (rw [if_neg (by decide +kernel)]; exact ⟨rfl, rfl⟩)

set_option maxHeartbeats 2000000 in
theorem ftl_over : Rows.fnExactFilteredTotalRow.holds Try.pinned (OpenSpec.ofChange Rows.fnExactFilteredTotalSpec) :=
  OpenClaim.holds_of_wide 8 Try.f8 rfl rfl rfl rfl rfl rfl rfl ⟨rfl, rfl, rfl, rfl, rfl⟩ rfl rfl rfl rfl rfl ftl_named Try.func8 ftl_facts
    ftl_inst ftl_wrap (fun os started H enc _ => ftl_lifted os started H enc)

theorem ftl_proved : Rows.FnExactFilteredTotalSaid := ftl_over
#print axioms ftl_proved
end Go.Proofs.Ytlopenephgabhaa
