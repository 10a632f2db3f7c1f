/- FnExactDifferentialOf: for every complex value, degree and list that come in (whatever their numbers, sizes and sharing), the law's call returns true and leaves the arguments as they were. No condition. -/
import Derived.Test.YtidddjdddfokoaaLawDif
import Derived.Test.YtidddjdddfokoaaLift
namespace Go.Proofs.Ytidddjdddfokoaa
open Go.ChangeShapes Go.WideShapes Go.ChangeAt Go.RowKit

set_option maxRecDepth 100000 in
theorem dif_lifted (os : Os) (started : os.Started) (H : Type) (enc : TypeId × Value → H) :
    ReturnsInHanded {} Try.checked os 6 .any (Rows.fnExactDifferentialOfSpec.pre6 enc Try.prog Try.f6 Rows.fnExactDifferentialOfRow.domain false) (Rows.fnExactDifferentialOfSpec.post enc Try.prog Try.f6 false true false false) := by
  refine returnsInHanded_of_change (C := Try.checked) Try.own started (by kernel_rfl) Try.func6
    (ChangeSpec.witness6 (enc := enc) (C := Try.checked) false ⟨#[], #[.agg #[.int .i64 0, .slice none 0 0, .slice none 0 0], .int .i64 0, .slice none 0 0], []⟩ 8 (by kernel_rfl) (by kernel_rfl) (by kernel_rfl) (by kernel_rfl)) ?_
  intro W base args ds gs before hval0 hW hcnd _
  have hval : ∀ (j : Nat) t v, Try.f6.params[j]? = some t → args[j]? = some v → Value.okWide Try.prog W .any base t v := hval0
  have hW' := hW
  obtain ⟨p, q, hA0, hV, rfl, hfz, hnd⟩ := hW
  have hA : DataW.TrodAll enc Try.prog W 0 (fun _ => true) true Try.f6.params.toList args.toList ds p := hA0
  rw [Try.params6] at hA hval
  obtain ⟨v0, v1, v2, d0, d1, d2, p0, p1, p2, rfl, rfl, rfl, h0, h1, h2⟩ := trodAll_three hA
  obtain ⟨rfl, rfl⟩ := trodVars_none hV
  have k0 := h0
  have k2 := h2
  have lt0 : ∀ x ∈ p0, x.block < W.heap.size := by obtain ⟨m, hm⟩ := k0; exact DataW.trod_lt m _ _ _ hm
  have lt2 : ∀ x ∈ p2, x.block < W.heap.size := by obtain ⟨m, hm⟩ := k2; exact DataW.trod_lt m _ _ _ hm
  obtain ⟨pr, dv, mv, xs, ys, rfl, hcx, hdl, hml⟩ := complex_of_trod (hval 0 54 v0 rfl rfl) h0
  obtain ⟨n, rfl, rfl, rfl, wn⟩ := open_int Try.underlying2 (hval 1 2 v1 rfl rfl) h1
  obtain ⟨av, lv, cv, rfl⟩ := okWide_slice Try.underlying24 (hval 2 24 v2 rfl rfl)
  obtain ⟨zs, hz, hzl⟩ : ∃ zs, L1 0 W (.slice av lv cv) zs ∧ Bd1 9223372036854775807 zs := by
    obtain ⟨fuel, hf⟩ := h2
    exact l1_of_trod hf
  have hzl2 : zs.length ≤ 9223372036854775807 := by unfold Bd1 at hzl; exact hzl
  clear hA0 hval0
  refine (lawDif_any pr n dv mv (.slice av lv cv) xs ys zs W hcx hz hdl hml hzl2).mono fun e W' ⟨he, bel⟩ => ?_
  subst he
  exact ⟨_, rfl, _, _, _, [], _, [], hW', trodAll_mk1 (shut_bool Try.underlying4 _), trodAll_mk3 (Below.trod Try.laidOut (by kernel_rfl) (of_decide_eq_true (by kernel_rfl)) k0 bel lt0) (shut_int Try.underlying2 wn) (Below.trod Try.laidOut (by kernel_rfl) (of_decide_eq_true (by kernel_rfl)) k2 bel lt2), rfl, bel.frame _, fun h => by cases h⟩

set_option maxHeartbeats 40000000 in
theorem dif_facts : joinedFacts Try.checked.prog 6 Try.f6 Rows.fnExactDifferentialOfSpec Rows.fnExactDifferentialOfRow = true := by
  unfold joinedFacts
  simp only [Bool.and_eq_true]
  and_intros
  all_goals as_aux_lemma => kernel_rfl

theorem dif_named : Try.checked.prog.funcNamed Rows.fnExactDifferentialOfRow.func = some 6 := by kernel_rfl
theorem dif_inst : Try.f6.isInstance Try.checked.prog Rows.fnExactDifferentialOfRow.origin Rows.fnExactDifferentialOfRow.targs := of_decide_eq_true (by kernel_rfl)
theorem dif_wrap : Try.f6.isWrapper Try.checked.prog Rows.fnExactDifferentialOfRow.wrapper Rows.fnExactDifferentialOfRow.mainSum := by
  unfold Func.isWrapper
  first | (rw [if_pos (by decide +kernel)]; kernel_rfl) | (rw [if_neg (by decide +kernel)]; exact ⟨rfl, rfl⟩)

set_option maxHeartbeats 2000000 in
theorem dif_over : Rows.fnExactDifferentialOfRow.holds Try.pinned (OpenSpec.ofChange Rows.fnExactDifferentialOfSpec) :=
  OpenClaim.holds_of_wide 6 Try.f6 rfl rfl rfl rfl rfl rfl rfl ⟨rfl, rfl, rfl, rfl, rfl⟩ rfl rfl rfl rfl rfl dif_named Try.func6 dif_facts
    dif_inst dif_wrap (fun os started H enc _ => dif_lifted os started H enc)

theorem dif_proved : Rows.FnExactDifferentialOfSaid := dif_over
#print axioms dif_proved
end Go.Proofs.Ytidddjdddfokoaa
