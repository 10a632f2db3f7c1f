/-
  FnExactIsPerturbation: for every complex value and every list of tables that come in, the law's call returns true and leaves the arguments as they were. No condition.
-/
import Derived.Test.YtchijefibiaphaaZi5
namespace Go.Proofs.Ytchijefibiaphaa
open Go.ChangeShapes Go.WideShapes Go.ChangeAt Go.RowKit

set_option maxRecDepth 100000 in
theorem ipl_lifted (os : Os) (started : os.Started) (H : Type) (enc : TypeId × Value → H) :
    ReturnsInHanded {} Try.checked os 3 .any (Rows.fnExactIsPerturbationSpec.pre6 enc Try.prog Try.f3 Rows.fnExactIsPerturbationRow.domain false) (Rows.fnExactIsPerturbationSpec.post enc Try.prog Try.f3 false true false false) := by
  refine returnsInHanded_of_change (C := Try.checked) Try.own started (by kernel_rfl) Try.func3
    (ChangeSpec.witness6 (enc := enc) (C := Try.checked) false ⟨#[], #[.agg #[.int .i64 0, .slice none 0 0, .slice none 0 0], .slice none 0 0], []⟩ 8 (by kernel_rfl) (by kernel_rfl) (by kernel_rfl) (by kernel_rfl)) ?_
  intro W base args ds gs before hval0 hW hcnd _
  have hval : ∀ (j : Nat) t v, Try.f3.params[j]? = some t → args[j]? = some v → Value.okWide Try.prog W .any base t v := hval0
  have hW' := hW
  obtain ⟨p, q, hA0, hV, rfl, hfz, hnd⟩ := hW
  have hA : DataW.TrodAll enc Try.prog W 0 (fun _ => true) true Try.f3.params.toList args.toList ds p := hA0
  rw [Try.params3] at hA hval
  obtain ⟨v0, v1, d0, d1, p0, p1, rfl, rfl, rfl, h0, h1⟩ := trodAll_two hA
  obtain ⟨rfl, rfl⟩ := trodVars_none hV
  have k0 := h0
  have lt0 : ∀ x ∈ p0, x.block < W.heap.size := by obtain ⟨m, hm⟩ := k0; exact DataW.trod_lt m _ _ _ hm
  obtain ⟨q0, dv0, mv0, xs0, ys0, rfl, hx0, hdl0, hml0⟩ := complex_of_trod (hval 0 25 v0 rfl rfl) h0
  have k1 := h1
  have lt1 : ∀ x ∈ p1, x.block < W.heap.size := by obtain ⟨m, hm⟩ := k1; exact DataW.trod_lt m _ _ _ hm
  obtain ⟨av1, lv1, cv1, rfl⟩ := okWide_slice Try.underlying23 (hval 1 23 v1 rfl rfl)
  obtain ⟨zs1, hx1, hml1⟩ : ∃ zs, L3 0 W (.slice av1 lv1 cv1) zs ∧ Bd3 9223372036854775807 zs := by
    obtain ⟨fuel, hf⟩ := h1
    exact l3_of_trod hf
  clear hA0 hval0
  refine (lawIpl_any q0 dv0 mv0 xs0 ys0 _ zs1 W hx0 hdl0 hml0 hx1 hml1).mono fun e W' ⟨he, bel⟩ => ?_
  subst he
  exact ⟨_, rfl, _, _, _, [], _, [], hW', trodAll_mk1 (shut_bool Try.underlying4 _), trodAll_mk2 (Below.trod Try.laidOut (by kernel_rfl) (of_decide_eq_true (by kernel_rfl)) k0 bel lt0) (Below.trod Try.laidOut (by kernel_rfl) (of_decide_eq_true (by kernel_rfl)) k1 bel lt1), rfl, bel.frame _, fun h => by cases h⟩

set_option maxRecDepth 100000 in
theorem ipl_unf : Try.checked.prog.unfollowed 3 = true := by kernel_rfl
theorem ipl_rec : Try.checked.prog.recurses 3 = true := by
  unfold Program.recurses
  rw [ipl_unf, Bool.true_or]
set_option maxRecDepth 100000 in
set_option maxHeartbeats 40000000 in
theorem ipl_facts : joinedFacts Try.checked.prog 3 Try.f3 Rows.fnExactIsPerturbationSpec Rows.fnExactIsPerturbationRow = true := by
  unfold joinedFacts
  simp only [Try.mayEnter, Try.liftsFinal, Try.make, ipl_rec, ipl_unf, Bool.and_eq_true]
  and_intros
  all_goals first | exact trivial | (as_aux_lemma => kernel_rfl)

theorem ipl_named : Try.checked.prog.funcNamed Rows.fnExactIsPerturbationRow.func = some 3 := by kernel_rfl
theorem ipl_inst : Try.f3.isInstance Try.checked.prog Rows.fnExactIsPerturbationRow.origin Rows.fnExactIsPerturbationRow.targs := of_decide_eq_true (by kernel_rfl)
theorem ipl_wrap : Try.f3.isWrapper Try.checked.prog Rows.fnExactIsPerturbationRow.wrapper Rows.fnExactIsPerturbationRow.mainSum := by
  unfold Func.isWrapper
  first | (rw [if_pos (by decide +kernel)]; kernel_rfl) | (rw [if_neg (by decide +kernel)]; exact ⟨rfl, rfl⟩)

set_option maxHeartbeats 2000000 in
theorem ipl_over : Rows.fnExactIsPerturbationRow.holds Try.pinned (OpenSpec.ofChange Rows.fnExactIsPerturbationSpec) :=
  OpenClaim.holds_of_wide 3 Try.f3 rfl rfl rfl rfl rfl rfl rfl ⟨rfl, rfl, rfl, rfl, rfl⟩ rfl rfl rfl rfl rfl ipl_named Try.func3 ipl_facts
    ipl_inst ipl_wrap (fun os started H enc _ => ipl_lifted os started H enc)

theorem ipl_proved : Rows.FnExactIsPerturbationSaid := ipl_over
#print axioms ipl_proved
end Go.Proofs.Ytchijefibiaphaa
