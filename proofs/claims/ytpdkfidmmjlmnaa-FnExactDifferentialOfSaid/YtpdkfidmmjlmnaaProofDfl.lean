/-
  FnExactDifferentialOf: for every complex value, number and list that come in (whatever their numbers, sizes and sharing), the law's call returns true and leaves the arguments as they were. No condition.
-/
import Derived.Test.YtpdkfidmmjlmnaaLawDfl
import Derived.Test.YtpdkfidmmjlmnaaQh
namespace Go.Proofs.Ytpdkfidmmjlmnaa
open Go.ChangeShapes Go.WideShapes Go.ChangeAt Go.RowKit

set_option maxRecDepth 100000 in
theorem dfl_lifted (os : Os) (started : os.Started) (H : Type) (enc : TypeId × Value → H) :
    ReturnsInHanded {} Try.checked os 4 .any (Rows.fnExactDifferentialOfSpec.pre6 enc Try.prog Try.f4 Rows.fnExactDifferentialOfRow.domain false) (Rows.fnExactDifferentialOfSpec.post enc Try.prog Try.f4 false true false false) := by
  refine returnsInHanded_of_change (C := Try.checked) Try.own started (by kernel_rfl) Try.func4
    (ChangeSpec.witness6 (enc := enc) (C := Try.checked) false ⟨#[], #[.agg #[.int .i64 0, .slice none 0 0, .slice none 0 0], .int .i64 0, .slice none 0 0], []⟩ 8 (by kernel_rfl) (by kernel_rfl) (by kernel_rfl) (by kernel_rfl)) ?_
  intro W base args ds gs before hval0 hW hcnd _
  have hval : ∀ (j : Nat) t v, Try.f4.params[j]? = some t → args[j]? = some v → Value.okWide Try.prog W .any base t v := hval0
  have hW' := hW
  obtain ⟨p, q, hA0, hV, rfl, hfz, hnd⟩ := hW
  have hA : DataW.TrodAll enc Try.prog W 0 (fun _ => true) true Try.f4.params.toList args.toList ds p := hA0
  rw [Try.params4] at hA hval
  obtain ⟨v0, v1, v2, d0, d1, d2, p0, p1, p2, rfl, rfl, rfl, h0, h1, h2⟩ := trodAll_three hA
  obtain ⟨rfl, rfl⟩ := trodVars_none hV
  have k0 := h0
  have lt0 : ∀ x ∈ p0, x.block < W.heap.size := by obtain ⟨m, hm⟩ := k0; exact DataW.trod_lt m _ _ _ hm
  obtain ⟨q0, dv0, mv0, xs0, ys0, rfl, hx0, hdl0, hml0⟩ := complex_of_trod (hval 0 25 v0 rfl rfl) h0
  obtain ⟨n1, rfl, rfl, rfl, wn1⟩ := open_int Try.underlying2 (hval 1 2 v1 rfl rfl) h1
  have k2 := h2
  have lt2 : ∀ x ∈ p2, x.block < W.heap.size := by obtain ⟨m, hm⟩ := k2; exact DataW.trod_lt m _ _ _ hm
  obtain ⟨av2, lv2, cv2, rfl⟩ := okWide_slice Try.underlying22 (hval 2 22 v2 rfl rfl)
  obtain ⟨zs2, hx2, hml2⟩ : ∃ zs, L1 0 W (.slice av2 lv2 cv2) zs ∧ Bd1 9223372036854775807 zs := by
    obtain ⟨fuel, hf⟩ := h2
    exact l1_of_trod hf
  clear hA0 hval0
  refine (lawDfl_any q0 dv0 mv0 xs0 ys0 n1 _ zs2 W hx0 hdl0 hml0 hx2 hml2).mono fun e W' ⟨he, bel⟩ => ?_
  subst he
  exact ⟨_, rfl, _, _, _, [], _, [], hW', trodAll_mk1 (shut_bool Try.underlying4 _), trodAll_mk3 (Below.trod Try.laidOut (by kernel_rfl) (of_decide_eq_true (by kernel_rfl)) k0 bel lt0) (shut_int Try.underlying2 wn1) (Below.trod Try.laidOut (by kernel_rfl) (of_decide_eq_true (by kernel_rfl)) k2 bel lt2), rfl, bel.frame _, fun h => by cases h⟩

set_option maxRecDepth 100000 in
theorem dfl_unf : Try.checked.prog.unfollowed 4 = false := by kernel_rfl
theorem dfl_rec : Try.checked.prog.recurses 4 = false := Try.recurses dfl_unf
set_option maxRecDepth 100000 in
set_option maxHeartbeats 40000000 in
theorem dfl_facts : joinedFacts Try.checked.prog 4 Try.f4 Rows.fnExactDifferentialOfSpec Rows.fnExactDifferentialOfRow = true := by
  unfold joinedFacts
  simp only [Try.mayEnter, Try.liftsFinal, Try.make, dfl_rec, dfl_unf, Bool.and_eq_true]
  and_intros
  all_goals first | exact trivial | (as_aux_lemma => kernel_rfl)

theorem dfl_named : Try.checked.prog.funcNamed Rows.fnExactDifferentialOfRow.func = some 4 := by kernel_rfl
theorem dfl_inst : Try.f4.isInstance Try.checked.prog Rows.fnExactDifferentialOfRow.origin Rows.fnExactDifferentialOfRow.targs := of_decide_eq_true (by kernel_rfl)
theorem dfl_wrap : Try.f4.isWrapper Try.checked.prog Rows.fnExactDifferentialOfRow.wrapper Rows.fnExactDifferentialOfRow.mainSum := by
  unfold Func.isWrapper
  first | (rw [if_pos (by decide +kernel)]; kernel_rfl) | (rw [if_neg (by decide +kernel)]; exact ⟨rfl, rfl⟩)

set_option maxHeartbeats 2000000 in
theorem dfl_over : Rows.fnExactDifferentialOfRow.holds Try.pinned (OpenSpec.ofChange Rows.fnExactDifferentialOfSpec) :=
  OpenClaim.holds_of_wide 4 Try.f4 rfl rfl rfl rfl rfl rfl rfl ⟨rfl, rfl, rfl, rfl, rfl⟩ rfl rfl rfl rfl rfl dfl_named Try.func4 dfl_facts
    dfl_inst dfl_wrap (fun os started H enc _ => dfl_lifted os started H enc)

theorem dfl_proved : Rows.FnExactDifferentialOfSaid := dfl_over
#print axioms dfl_proved
end Go.Proofs.Ytpdkfidmmjlmnaa
