/-
  FnExactPerturbedComplex: for every complex value and every list of tables that come in (whatever their numbers, sizes and sharing), the law's call returns true and leaves the arguments as they were. No condition.
-/
import Derived.Test.YtchijefibiaphaaZq5
namespace Go.Proofs.Ytchijefibiaphaa
open Go.ChangeShapes Go.WideShapes Go.ChangeAt Go.RowKit

set_option maxRecDepth 100000 in
theorem pbl_lifted (os : Os) (started : os.Started) (H : Type) (enc : TypeId × Value → H) :
    ReturnsInHanded {} Try.checked os 4 .any (Rows.fnExactPerturbedComplexSpec.pre6 enc Try.prog Try.f4 Rows.fnExactPerturbedComplexRow.domain false) (Rows.fnExactPerturbedComplexSpec.post enc Try.prog Try.f4 false true false false) := by
  refine returnsInHanded_of_change (C := Try.checked) Try.own started (by kernel_rfl) Try.func4
    (ChangeSpec.witness6 (enc := enc) (C := Try.checked) false ⟨#[], #[.agg #[.int .i64 0, .slice none 0 0, .slice none 0 0], .slice none 0 0], []⟩ 8 (by kernel_rfl) (by kernel_rfl) (by kernel_rfl) (by kernel_rfl)) ?_
  intro W base args ds gs before hval0 hW hcnd _
  have hval : ∀ (j : Nat) t v, Try.f4.params[j]? = some t → args[j]? = some v → Value.okWide Try.prog W .any base t v := hval0
  have hW' := hW
  obtain ⟨p, q, hA0, hV, rfl, hfz, hnd⟩ := hW
  have hA : DataW.TrodAll enc Try.prog W 0 (fun _ => true) true Try.f4.params.toList args.toList ds p := hA0
  rw [Try.params4] at hA hval
  obtain ⟨v0, v1, d0, d1, p0, p1, rfl, rfl, rfl, h0, h1⟩ := trodAll_two hA
  obtain ⟨rfl, rfl⟩ := trodVars_none hV
  have k0 := h0
  have lt0 : ∀ x ∈ p0, x.block < W.heap.size := by obtain ⟨m, hm⟩ := k0; exact DataW.trod_lt m _ _ _ hm
  obtain ⟨q0, dv0, mv0, xs0, ys0, rfl, hx0, hdl0, hml0⟩ := complex_of_trod (hval 0 25 v0 rfl rfl) h0
  have k1 := h1
  have lt1 : ∀ x ∈ p1, x.block < W.heap.size := by obtain ⟨m, hm⟩ := k1; exact DataW.trod_lt m _ _ _ hm
  obtain ⟨av1, lv1, cv1, rfl⟩ := okWide_slice Try.underlying23 (hval 1 23 v1 rfl rfl)
  obtain ⟨zs1, hx1, hml1⟩ : ∃ zs, L3 0 W (.slice av1 lv1 cv1) zs ∧ Bd3 9223372036854775807 zs := by
    obtain ⟨fuel, hf⟩ := h1
    exact l3_of_trod hf
  clear hA0 hval0
  refine (lawPbl_any q0 dv0 mv0 xs0 ys0 _ zs1 W hx0 hdl0 hml0 hx1 hml1).mono fun e W' ⟨he, bel⟩ => ?_
  subst he
  exact ⟨_, rfl, _, _, _, [], _, [], hW', trodAll_mk1 (shut_bool Try.underlying4 _), trodAll_mk2 (Below.trod Try.laidOut (by kernel_rfl) (of_decide_eq_true (by kernel_rfl)) k0 bel lt0) (Below.trod Try.laidOut (by kernel_rfl) (of_decide_eq_true (by kernel_rfl)) k1 bel lt1), rfl, bel.frame _, fun h => by cases h⟩

set_option maxRecDepth 100000 in
theorem pbl_unf : Try.checked.prog.unfollowed 4 = true := by kernel_rfl
theorem pbl_rec : Try.checked.prog.recurses 4 = true := by
  unfold Program.recurses
  rw [pbl_unf, Bool.true_or]
set_option maxRecDepth 100000 in
set_option maxHeartbeats 40000000 in
theorem pbl_facts : joinedFacts Try.checked.prog 4 Try.f4 Rows.fnExactPerturbedComplexSpec Rows.fnExactPerturbedComplexRow = true := by
  unfold joinedFacts
  simp only [Try.mayEnter, Try.liftsFinal, Try.make, pbl_rec, pbl_unf, Bool.and_eq_true]
  and_intros
  all_goals first | exact trivial | (as_aux_lemma => kernel_rfl)

theorem pbl_named : Try.checked.prog.funcNamed Rows.fnExactPerturbedComplexRow.func = some 4 := by kernel_rfl
theorem pbl_inst : Try.f4.isInstance Try.checked.prog Rows.fnExactPerturbedComplexRow.origin Rows.fnExactPerturbedComplexRow.targs := of_decide_eq_true (by kernel_rfl)
theorem pbl_wrap : Try.f4.isWrapper Try.checked.prog Rows.fnExactPerturbedComplexRow.wrapper Rows.fnExactPerturbedComplexRow.mainSum := by
  unfold Func.isWrapper
  first | (rw [if_pos (by decide +kernel)]; kernel_rfl) | (rw [if_neg (by decide +kernel)]; exact ⟨rfl, rfl⟩)

set_option maxHeartbeats 2000000 in
theorem pbl_over : Rows.fnExactPerturbedComplexRow.holds Try.pinned (OpenSpec.ofChange Rows.fnExactPerturbedComplexSpec) :=
  OpenClaim.holds_of_wide 4 Try.f4 rfl rfl rfl rfl rfl rfl rfl ⟨rfl, rfl, rfl, rfl, rfl⟩ rfl rfl rfl rfl rfl pbl_named Try.func4 pbl_facts
    pbl_inst pbl_wrap (fun os started H enc _ => pbl_lifted os started H enc)

theorem pbl_proved : Rows.FnExactPerturbedComplexSaid := pbl_over
#print axioms pbl_proved
end Go.Proofs.Ytchijefibiaphaa
