/-
  FnExactJoinBars: for every two slices of bars that come in (whatever their lengths, numbers and sharing), the law's call returns true and leaves the arguments as they were. No condition.
-/
import Derived.Test.YtchijefibiaphaaLawJbl
import Derived.Test.YtchijefibiaphaaQh
namespace Go.Proofs.Ytchijefibiaphaa
open Go.ChangeShapes Go.WideShapes Go.ChangeAt Go.RowKit

set_option maxRecDepth 100000 in
theorem jbl_lifted (os : Os) (started : os.Started) (H : Type) (enc : TypeId × Value → H) :
    ReturnsInHanded {} Try.checked os 10 .any (Rows.fnExactJoinBarsSpec.pre6 enc Try.prog Try.f10 Rows.fnExactJoinBarsRow.domain false) (Rows.fnExactJoinBarsSpec.post enc Try.prog Try.f10 false true false false) := by
  refine returnsInHanded_of_change (C := Try.checked) Try.own started (by kernel_rfl) Try.func10
    (ChangeSpec.witness6 (enc := enc) (C := Try.checked) false ⟨#[], #[.slice none 0 0, .slice none 0 0], []⟩ 8 (by kernel_rfl) (by kernel_rfl) (by kernel_rfl) (by kernel_rfl)) ?_
  intro W base args ds gs before hval0 hW hcnd _
  have hval : ∀ (j : Nat) t v, Try.f10.params[j]? = some t → args[j]? = some v → Value.okWide Try.prog W .any base t v := hval0
  have hW' := hW
  obtain ⟨p, q, hA0, hV, rfl, hfz, hnd⟩ := hW
  have hA : DataW.TrodAll enc Try.prog W 0 (fun _ => true) true Try.f10.params.toList args.toList ds p := hA0
  rw [Try.params10] at hA hval
  obtain ⟨v0, v1, d0, d1, p0, p1, rfl, rfl, rfl, h0, h1⟩ := trodAll_two hA
  obtain ⟨rfl, rfl⟩ := trodVars_none hV
  have k0 := h0
  have lt0 : ∀ x ∈ p0, x.block < W.heap.size := by obtain ⟨m, hm⟩ := k0; exact DataW.trod_lt m _ _ _ hm
  obtain ⟨av0, lv0, cv0, rfl⟩ := okWide_slice Try.underlying39 (hval 0 39 v0 rfl rfl)
  obtain ⟨zs0, hx0, hml0⟩ : ∃ zs, Br 0 W (.slice av0 lv0 cv0) zs ∧ zs.length ≤ 9223372036854775807 := by
    obtain ⟨fuel, hf⟩ := h0
    exact bars_of_trod hf
  have k1 := h1
  have lt1 : ∀ x ∈ p1, x.block < W.heap.size := by obtain ⟨m, hm⟩ := k1; exact DataW.trod_lt m _ _ _ hm
  obtain ⟨av1, lv1, cv1, rfl⟩ := okWide_slice Try.underlying39 (hval 1 39 v1 rfl rfl)
  obtain ⟨zs1, hx1, hml1⟩ : ∃ zs, Br 0 W (.slice av1 lv1 cv1) zs ∧ zs.length ≤ 9223372036854775807 := by
    obtain ⟨fuel, hf⟩ := h1
    exact bars_of_trod hf
  clear hA0 hval0
  refine (lawJbl_any _ zs0 _ zs1 W hx0 hml0 hx1 hml1).mono fun e W' ⟨he, bel⟩ => ?_
  subst he
  exact ⟨_, rfl, _, _, _, [], _, [], hW', trodAll_mk1 (shut_bool Try.underlying4 _), trodAll_mk2 (Below.trod Try.laidOut (by kernel_rfl) (of_decide_eq_true (by kernel_rfl)) k0 bel lt0) (Below.trod Try.laidOut (by kernel_rfl) (of_decide_eq_true (by kernel_rfl)) k1 bel lt1), rfl, bel.frame _, fun h => by cases h⟩

set_option maxRecDepth 100000 in
theorem jbl_unf : Try.checked.prog.unfollowed 10 = true := by kernel_rfl
theorem jbl_rec : Try.checked.prog.recurses 10 = true := by
  unfold Program.recurses
  rw [jbl_unf, Bool.true_or]
set_option maxRecDepth 100000 in
set_option maxHeartbeats 40000000 in
theorem jbl_facts : joinedFacts Try.checked.prog 10 Try.f10 Rows.fnExactJoinBarsSpec Rows.fnExactJoinBarsRow = true := by
  unfold joinedFacts
  simp only [Try.mayEnter, Try.liftsFinal, Try.make, jbl_rec, jbl_unf, Bool.and_eq_true]
  and_intros
  all_goals first | exact trivial | (as_aux_lemma => kernel_rfl)

theorem jbl_named : Try.checked.prog.funcNamed Rows.fnExactJoinBarsRow.func = some 10 := by kernel_rfl
theorem jbl_inst : Try.f10.isInstance Try.checked.prog Rows.fnExactJoinBarsRow.origin Rows.fnExactJoinBarsRow.targs := of_decide_eq_true (by kernel_rfl)
theorem jbl_wrap : Try.f10.isWrapper Try.checked.prog Rows.fnExactJoinBarsRow.wrapper Rows.fnExactJoinBarsRow.mainSum := by
  unfold Func.isWrapper
  first | (rw [if_pos (by decide +kernel)]; kernel_rfl) | (rw [if_neg (by decide +kernel)]; exact ⟨rfl, rfl⟩)

set_option maxHeartbeats 2000000 in
theorem jbl_over : Rows.fnExactJoinBarsRow.holds Try.pinned (OpenSpec.ofChange Rows.fnExactJoinBarsSpec) :=
  OpenClaim.holds_of_wide 10 Try.f10 rfl rfl rfl rfl rfl rfl rfl ⟨rfl, rfl, rfl, rfl, rfl⟩ rfl rfl rfl rfl rfl jbl_named Try.func10 jbl_facts
    jbl_inst jbl_wrap (fun os started H enc _ => jbl_lifted os started H enc)

theorem jbl_proved : Rows.FnExactJoinBarsSaid := jbl_over
#print axioms jbl_proved
end Go.Proofs.Ytchijefibiaphaa
