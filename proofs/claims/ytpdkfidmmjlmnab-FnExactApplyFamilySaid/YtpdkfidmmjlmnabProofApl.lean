/-
  FnExactApplyFamily: for every two complex values, tables, number and row that come in (whatever their numbers, sizes and sharing), the law's call returns true and leaves the arguments as they were. No condition.
-/
import Derived.Test.YtpdkfidmmjlmnabLawApl
import Derived.Test.YtpdkfidmmjlmnabQh
namespace Go.Proofs.Ytpdkfidmmjlmnab
open Go.ChangeShapes Go.WideShapes Go.ChangeAt Go.RowKit

set_option maxRecDepth 100000 in
theorem apl_lifted (os : Os) (started : os.Started) (H : Type) (enc : TypeId × Value → H) :
    ReturnsInHanded {} Try.checked os 12 .any (Rows.fnExactApplyFamilySpec.pre6 enc Try.prog Try.f12 Rows.fnExactApplyFamilyRow.domain false) (Rows.fnExactApplyFamilySpec.post enc Try.prog Try.f12 false true false false) := by
  refine returnsInHanded_of_change (C := Try.checked) Try.own started (by kernel_rfl) Try.func12
    (ChangeSpec.witness6 (enc := enc) (C := Try.checked) false ⟨#[], #[.agg #[.int .i64 0, .slice none 0 0, .slice none 0 0], .agg #[.int .i64 0, .slice none 0 0, .slice none 0 0], .slice none 0 0, .int .i64 0, .slice none 0 0], []⟩ 8 (by kernel_rfl) (by kernel_rfl) (by kernel_rfl) (by kernel_rfl)) ?_
  intro W base args ds gs before hval0 hW hcnd _
  have hval : ∀ (j : Nat) t v, Try.f12.params[j]? = some t → args[j]? = some v → Value.okWide Try.prog W .any base t v := hval0
  have hW' := hW
  obtain ⟨p, q, hA0, hV, rfl, hfz, hnd⟩ := hW
  have hA : DataW.TrodAll enc Try.prog W 0 (fun _ => true) true Try.f12.params.toList args.toList ds p := hA0
  rw [Try.params12] at hA hval
  obtain ⟨v0, v1, v2, v3, v4, d0, d1, d2, d3, d4, p0, p1, p2, p3, p4, rfl, rfl, rfl, h0, h1, h2, h3, h4⟩ := trodAll_five hA
  obtain ⟨rfl, rfl⟩ := trodVars_none hV
  have k0 := h0
  have lt0 : ∀ x ∈ p0, x.block < W.heap.size := by obtain ⟨m, hm⟩ := k0; exact DataW.trod_lt m _ _ _ hm
  obtain ⟨q0, dv0, mv0, xs0, ys0, rfl, hx0, hdl0, hml0⟩ := complex_of_trod (hval 0 25 v0 rfl rfl) h0
  have k1 := h1
  have lt1 : ∀ x ∈ p1, x.block < W.heap.size := by obtain ⟨m, hm⟩ := k1; exact DataW.trod_lt m _ _ _ hm
  obtain ⟨q1, dv1, mv1, xs1, ys1, rfl, hx1, hdl1, hml1⟩ := complex_of_trod (hval 1 25 v1 rfl rfl) h1
  have k2 := h2
  have lt2 : ∀ x ∈ p2, x.block < W.heap.size := by obtain ⟨m, hm⟩ := k2; exact DataW.trod_lt m _ _ _ hm
  obtain ⟨av2, lv2, cv2, rfl⟩ := okWide_slice Try.underlying23 (hval 2 23 v2 rfl rfl)
  obtain ⟨zs2, hx2, hml2⟩ : ∃ zs, L3 0 W (.slice av2 lv2 cv2) zs ∧ Bd3 9223372036854775807 zs := by
    obtain ⟨fuel, hf⟩ := h2
    exact l3_of_trod hf
  obtain ⟨n3, rfl, rfl, rfl, wn3⟩ := open_int Try.underlying2 (hval 3 2 v3 rfl rfl) h3
  have k4 := h4
  have lt4 : ∀ x ∈ p4, x.block < W.heap.size := by obtain ⟨m, hm⟩ := k4; exact DataW.trod_lt m _ _ _ hm
  obtain ⟨av4, lv4, cv4, rfl⟩ := okWide_slice Try.underlying22 (hval 4 22 v4 rfl rfl)
  obtain ⟨zs4, hx4, hml4⟩ : ∃ zs, L1 0 W (.slice av4 lv4 cv4) zs ∧ Bd1 9223372036854775807 zs := by
    obtain ⟨fuel, hf⟩ := h4
    exact l1_of_trod hf
  clear hA0 hval0
  refine (lawApl_any q0 dv0 mv0 xs0 ys0 q1 dv1 mv1 xs1 ys1 _ zs2 n3 _ zs4 W hx0 hdl0 hml0 hx1 hdl1 hml1 hx2 hml2 hx4 hml4).mono fun e W' ⟨he, bel⟩ => ?_
  subst he
  exact ⟨_, rfl, _, _, _, [], _, [], hW', trodAll_mk1 (shut_bool Try.underlying4 _), trodAll_mk5 (Below.trod Try.laidOut (by kernel_rfl) (of_decide_eq_true (by kernel_rfl)) k0 bel lt0) (Below.trod Try.laidOut (by kernel_rfl) (of_decide_eq_true (by kernel_rfl)) k1 bel lt1) (Below.trod Try.laidOut (by kernel_rfl) (of_decide_eq_true (by kernel_rfl)) k2 bel lt2) (shut_int Try.underlying2 wn3) (Below.trod Try.laidOut (by kernel_rfl) (of_decide_eq_true (by kernel_rfl)) k4 bel lt4), rfl, bel.frame _, fun h => by cases h⟩

set_option maxRecDepth 100000 in
theorem apl_unf : Try.checked.prog.unfollowed 12 = false := by kernel_rfl
theorem apl_rec : Try.checked.prog.recurses 12 = false := Try.recurses apl_unf
set_option maxRecDepth 100000 in
set_option maxHeartbeats 40000000 in
theorem apl_facts : joinedFacts Try.checked.prog 12 Try.f12 Rows.fnExactApplyFamilySpec Rows.fnExactApplyFamilyRow = true := by
  unfold joinedFacts
  simp only [Try.mayEnter, Try.liftsFinal, Try.make, apl_rec, apl_unf, Bool.and_eq_true]
  and_intros
  all_goals first | exact trivial | (as_aux_lemma => kernel_rfl)

theorem apl_named : Try.checked.prog.funcNamed Rows.fnExactApplyFamilyRow.func = some 12 := by kernel_rfl
theorem apl_inst : Try.f12.isInstance Try.checked.prog Rows.fnExactApplyFamilyRow.origin Rows.fnExactApplyFamilyRow.targs := of_decide_eq_true (by kernel_rfl)
theorem apl_wrap : Try.f12.isWrapper Try.checked.prog Rows.fnExactApplyFamilyRow.wrapper Rows.fnExactApplyFamilyRow.mainSum := by
  unfold Func.isWrapper
  first | (rw [if_pos (by decide +kernel)]; kernel_rfl) | (rw [if_neg (by decide +kernel)]; exact ⟨rfl, rfl⟩)

set_option maxHeartbeats 2000000 in
theorem apl_over : Rows.fnExactApplyFamilyRow.holds Try.pinned (OpenSpec.ofChange Rows.fnExactApplyFamilySpec) :=
  OpenClaim.holds_of_wide 12 Try.f12 rfl rfl rfl rfl rfl rfl rfl ⟨rfl, rfl, rfl, rfl, rfl⟩ rfl rfl rfl rfl rfl apl_named Try.func12 apl_facts
    apl_inst apl_wrap (fun os started H enc _ => apl_lifted os started H enc)

theorem apl_proved : Rows.FnExactApplyFamilySaid := apl_over
#print axioms apl_proved
end Go.Proofs.Ytpdkfidmmjlmnab
