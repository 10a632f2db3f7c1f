/-
  FnExactMeetOfSpaces: for every two numbers and every two lists of rows that come in (whatever their numbers, sizes and sharing), the law's call returns true and leaves the arguments as they were. No condition.
-/
import Derived.Test.YtpdkfidmmjlmnaaLawMeet
import Derived.Test.YtpdkfidmmjlmnaaQh
import Derived.Carry
namespace Go.Proofs.Ytpdkfidmmjlmnaa
open Go.ChangeShapes Go.WideShapes Go.ChangeAt Go.RowKit

set_option maxRecDepth 100000 in
theorem meet_lifted (os : Os) (started : os.Started) (H : Type) (enc : TypeId × Value → H) :
    ReturnsInHanded {} Try.checked os 12 .any (Rows.fnExactMeetOfSpacesSpec.pre6 enc Try.prog Try.f12 Rows.fnExactMeetOfSpacesRow.domain false) (Rows.fnExactMeetOfSpacesSpec.post enc Try.prog Try.f12 false true false false) := by
  refine returnsInHanded_of_change (C := Try.checked) Try.own started (by kernel_rfl) Try.func12
    (ChangeSpec.witness6 (enc := enc) (C := Try.checked) false ⟨#[], #[.int .i64 0, .int .i64 0, .slice none 0 0, .slice none 0 0], []⟩ 8 (by kernel_rfl) (by kernel_rfl) (by kernel_rfl) (by kernel_rfl)) ?_
  intro W base args ds gs before hval0 hW hcnd _
  have hval : ∀ (j : Nat) t v, Try.f12.params[j]? = some t → args[j]? = some v → Value.okWide Try.prog W .any base t v := hval0
  have hW' := hW
  obtain ⟨p, q, hA0, hV, rfl, hfz, hnd⟩ := hW
  have hA : DataW.TrodAll enc Try.prog W 0 (fun _ => true) true Try.f12.params.toList args.toList ds p := hA0
  rw [Try.params12] at hA hval
  obtain ⟨v0, v1, v2, v3, d0, d1, d2, d3, p0, p1, p2, p3, rfl, rfl, rfl, h0, h1, h2, h3⟩ := trodAll_four hA
  obtain ⟨rfl, rfl⟩ := trodVars_none hV
  have k2 := h2
  have k3 := h3
  have lt3 : ∀ x ∈ p3, x.block < W.heap.size := by obtain ⟨m, hm⟩ := k3; exact DataW.trod_lt m _ _ _ hm
  have lt2 : ∀ x ∈ p2, x.block < W.heap.size := by obtain ⟨m, hm⟩ := k2; exact DataW.trod_lt m _ _ _ hm
  obtain ⟨pr, rfl, rfl, rfl, wp⟩ := open_int Try.underlying2 (hval 0 2 v0 rfl rfl) h0
  obtain ⟨n, rfl, rfl, rfl, wn⟩ := open_int Try.underlying2 (hval 1 2 v1 rfl rfl) h1
  obtain ⟨av, lv, cv, rfl⟩ := okWide_slice Try.underlying41 (hval 2 41 v2 rfl rfl)
  obtain ⟨zs, hz, hzl⟩ : ∃ zs, L2 0 W (.slice av lv cv) zs ∧ Bd2 9223372036854775807 zs := by
    obtain ⟨fuel, hf⟩ := h2
    exact l2_of_trod hf
  obtain ⟨aw, lw, cw, rfl⟩ := okWide_slice Try.underlying41 (hval 3 41 v3 rfl rfl)
  obtain ⟨ys, hy, hyl⟩ : ∃ ys, L2 0 W (.slice aw lw cw) ys ∧ Bd2 9223372036854775807 ys := by
    obtain ⟨fuel, hf⟩ := h3
    exact l2_of_trod hf
  clear hA0 hval0
  refine (lawMeet_any pr n (.slice av lv cv) (.slice aw lw cw) zs ys W hz hy hzl hyl).mono fun e W' ⟨he, bel⟩ => ?_
  subst he
  exact ⟨_, rfl, _, _, _, [], _, [], hW', trodAll_mk1 (shut_bool Try.underlying4 _), trodAll_mk4 (shut_int Try.underlying2 wp) (shut_int Try.underlying2 wn) (Below.trod Try.laidOut (by kernel_rfl) (of_decide_eq_true (by kernel_rfl)) k2 bel lt2) (Below.trod Try.laidOut (by kernel_rfl) (of_decide_eq_true (by kernel_rfl)) k3 bel lt3), rfl, bel.frame _, fun h => by cases h⟩

set_option maxRecDepth 100000 in
theorem meet_unf : Try.checked.prog.unfollowed 12 = false := by kernel_rfl
theorem meet_rec : Try.checked.prog.recurses 12 = false := Try.recurses meet_unf
set_option maxRecDepth 100000 in
set_option maxHeartbeats 40000000 in
theorem meet_facts : joinedFacts Try.checked.prog 12 Try.f12 Rows.fnExactMeetOfSpacesSpec Rows.fnExactMeetOfSpacesRow = true := by
  unfold joinedFacts
  simp only [Try.mayEnter, Try.liftsFinal, Try.make, meet_rec, meet_unf, Bool.and_eq_true]
  and_intros
  all_goals first | exact trivial | (as_aux_lemma => kernel_rfl)

theorem meet_named : Try.checked.prog.funcNamed Rows.fnExactMeetOfSpacesRow.func = some 12 := by kernel_rfl
theorem meet_inst : Try.f12.isInstance Try.checked.prog Rows.fnExactMeetOfSpacesRow.origin Rows.fnExactMeetOfSpacesRow.targs := of_decide_eq_true (by kernel_rfl)
theorem meet_wrap : Try.f12.isWrapper Try.checked.prog Rows.fnExactMeetOfSpacesRow.wrapper Rows.fnExactMeetOfSpacesRow.mainSum := by
  unfold Func.isWrapper
  first | (rw [if_pos (by decide +kernel)]; kernel_rfl) | (rw [if_neg (by decide +kernel)]; exact ⟨rfl, rfl⟩)

set_option maxHeartbeats 2000000 in
theorem meet_over : Rows.fnExactMeetOfSpacesRow.holds Try.pinned (OpenSpec.ofChange Rows.fnExactMeetOfSpacesSpec) :=
  OpenClaim.holds_of_wide 12 Try.f12 rfl rfl rfl rfl rfl rfl rfl ⟨rfl, rfl, rfl, rfl, rfl⟩ rfl rfl rfl rfl rfl meet_named Try.func12 meet_facts
    meet_inst meet_wrap (fun os started H enc _ => meet_lifted os started H enc)

theorem meet_proved : Rows.FnExactMeetOfSpacesSaid := meet_over
#print axioms meet_proved
end Go.Proofs.Ytpdkfidmmjlmnaa
