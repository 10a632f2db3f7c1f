/-
  FnExactComposeFamilies: for every three complex values and two lists of tables that come in (whatever their numbers, sizes and sharing), the law's call returns true and leaves the arguments as they were. No condition.
-/
import Derived.Test.YtpdkfidmmjlmnabLawCfl
import Derived.Test.YtpdkfidmmjlmnabQh
import Derived.Test.YtpdkfidmmjlmnabTr5
namespace Go.Proofs.Ytpdkfidmmjlmnab
open Go.ChangeShapes Go.WideShapes Go.ChangeAt Go.RowKit

set_option maxRecDepth 100000 in
theorem cfl_lifted (os : Os) (started : os.Started) (H : Type) (enc : TypeId × Value → H) :
    ReturnsInHanded {} Try.checked os 13 .any (Rows.fnExactComposeFamiliesSpec.pre6 enc Try.prog Try.f13 Rows.fnExactComposeFamiliesRow.domain false) (Rows.fnExactComposeFamiliesSpec.post enc Try.prog Try.f13 false true false false) := by
  refine returnsInHanded_of_change (C := Try.checked) Try.own started (by kernel_rfl) Try.func13
    (ChangeSpec.witness6 (enc := enc) (C := Try.checked) false ⟨#[], #[.agg #[.int .i64 0, .slice none 0 0, .slice none 0 0], .agg #[.int .i64 0, .slice none 0 0, .slice none 0 0], .agg #[.int .i64 0, .slice none 0 0, .slice none 0 0], .slice none 0 0, .slice none 0 0], []⟩ 8 (by kernel_rfl) (by kernel_rfl) (by kernel_rfl) (by kernel_rfl)) ?_
  intro W base args ds gs before hval0 hW hcnd _
  have hval : ∀ (j : Nat) t v, Try.f13.params[j]? = some t → args[j]? = some v → Value.okWide Try.prog W .any base t v := hval0
  have hW' := hW
  obtain ⟨p, q, hA0, hV, rfl, hfz, hnd⟩ := hW
  have hA : DataW.TrodAll enc Try.prog W 0 (fun _ => true) true Try.f13.params.toList args.toList ds p := hA0
  rw [Try.params13] at hA hval
  obtain ⟨v0, v1, v2, v3, v4, d0, d1, d2, d3, d4, p0, p1, p2, p3, p4, rfl, rfl, rfl, h0, h1, h2, h3, h4⟩ := trodAll_five hA
  obtain ⟨rfl, rfl⟩ := trodVars_none hV
  have k0 := h0
  have lt0 : ∀ x ∈ p0, x.block < W.heap.size := by obtain ⟨m, hm⟩ := k0; exact DataW.trod_lt m _ _ _ hm
  obtain ⟨q0, dv0, mv0, xs0, ys0, rfl, hx0, hdl0, hml0⟩ := complex_of_trod (hval 0 25 v0 rfl rfl) h0
  have k1 := h1
  have lt1 : ∀ x ∈ p1, x.block < W.heap.size := by obtain ⟨m, hm⟩ := k1; exact DataW.trod_lt m _ _ _ hm
  obtain ⟨q1, dv1, mv1, xs1, ys1, rfl, hx1, hdl1, hml1⟩ := complex_of_trod (hval 1 25 v1 rfl rfl) h1
  have k2 := h2
  have lt2 : ∀ x ∈ p2, x.block < W.heap.size := by obtain ⟨m, hm⟩ := k2; exact DataW.trod_lt m _ _ _ hm
  obtain ⟨q2, dv2, mv2, xs2, ys2, rfl, hx2, hdl2, hml2⟩ := complex_of_trod (hval 2 25 v2 rfl rfl) h2
  have k3 := h3
  have lt3 : ∀ x ∈ p3, x.block < W.heap.size := by obtain ⟨m, hm⟩ := k3; exact DataW.trod_lt m _ _ _ hm
  obtain ⟨av3, lv3, cv3, rfl⟩ := okWide_slice Try.underlying23 (hval 3 23 v3 rfl rfl)
  obtain ⟨zs3, hx3, hml3⟩ : ∃ zs, L3 0 W (.slice av3 lv3 cv3) zs ∧ Bd3 9223372036854775807 zs := by
    obtain ⟨fuel, hf⟩ := h3
    exact l3_of_trod hf
  have k4 := h4
  have lt4 : ∀ x ∈ p4, x.block < W.heap.size := by obtain ⟨m, hm⟩ := k4; exact DataW.trod_lt m _ _ _ hm
  obtain ⟨av4, lv4, cv4, rfl⟩ := okWide_slice Try.underlying23 (hval 4 23 v4 rfl rfl)
  obtain ⟨zs4, hx4, hml4⟩ : ∃ zs, L3 0 W (.slice av4 lv4 cv4) zs ∧ Bd3 9223372036854775807 zs := by
    obtain ⟨fuel, hf⟩ := h4
    exact l3_of_trod hf
  clear hA0 hval0
  refine (lawCfl_any q0 dv0 mv0 xs0 ys0 q1 dv1 mv1 xs1 ys1 q2 dv2 mv2 xs2 ys2 _ zs3 _ zs4 W hx0 hdl0 hml0 hx1 hdl1 hml1 hx2 hdl2 hml2 hx3 hml3 hx4 hml4).mono fun e W' ⟨he, bel⟩ => ?_
  subst he
  exact ⟨_, rfl, _, _, _, [], _, [], hW', trodAll_mk1 (shut_bool Try.underlying4 _), trodAll_mk5 (Below.trod Try.laidOut (by kernel_rfl) (of_decide_eq_true (by kernel_rfl)) k0 bel lt0) (Below.trod Try.laidOut (by kernel_rfl) (of_decide_eq_true (by kernel_rfl)) k1 bel lt1) (Below.trod Try.laidOut (by kernel_rfl) (of_decide_eq_true (by kernel_rfl)) k2 bel lt2) (Below.trod Try.laidOut (by kernel_rfl) (of_decide_eq_true (by kernel_rfl)) k3 bel lt3) (Below.trod Try.laidOut (by kernel_rfl) (of_decide_eq_true (by kernel_rfl)) k4 bel lt4), rfl, bel.frame _, fun h => by cases h⟩

set_option maxRecDepth 100000 in
theorem cfl_unf : Try.checked.prog.unfollowed 13 = true := by kernel_rfl
theorem cfl_rec : Try.checked.prog.recurses 13 = true := by
  unfold Program.recurses
  rw [cfl_unf, Bool.true_or]
set_option maxRecDepth 100000 in
set_option maxHeartbeats 40000000 in
theorem cfl_facts : joinedFacts Try.checked.prog 13 Try.f13 Rows.fnExactComposeFamiliesSpec Rows.fnExactComposeFamiliesRow = true := by
  unfold joinedFacts
  simp only [Try.mayEnter, Try.liftsFinal, Try.make, cfl_rec, cfl_unf, Bool.and_eq_true]
  and_intros
  all_goals first | exact trivial | (as_aux_lemma => kernel_rfl)

theorem cfl_named : Try.checked.prog.funcNamed Rows.fnExactComposeFamiliesRow.func = some 13 := by kernel_rfl
theorem cfl_inst : Try.f13.isInstance Try.checked.prog Rows.fnExactComposeFamiliesRow.origin Rows.fnExactComposeFamiliesRow.targs := of_decide_eq_true (by kernel_rfl)
theorem cfl_wrap : Try.f13.isWrapper Try.checked.prog Rows.fnExactComposeFamiliesRow.wrapper Rows.fnExactComposeFamiliesRow.mainSum := by
  unfold Func.isWrapper
  first | (rw [if_pos (by decide +kernel)]; kernel_rfl) | (rw [if_neg (by decide +kernel)]; exact ⟨rfl, rfl⟩)

set_option maxHeartbeats 2000000 in
theorem cfl_over : Rows.fnExactComposeFamiliesRow.holds Try.pinned (OpenSpec.ofChange Rows.fnExactComposeFamiliesSpec) :=
  OpenClaim.holds_of_wide 13 Try.f13 rfl rfl rfl rfl rfl rfl rfl ⟨rfl, rfl, rfl, rfl, rfl⟩ rfl rfl rfl rfl rfl cfl_named Try.func13 cfl_facts
    cfl_inst cfl_wrap (fun os started H enc _ => cfl_lifted os started H enc)

theorem cfl_proved : Rows.FnExactComposeFamiliesSaid := cfl_over
#print axioms cfl_proved
end Go.Proofs.Ytpdkfidmmjlmnab
