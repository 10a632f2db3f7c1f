/-
  FnExactLongestBar: for every slice of bars that comes in, the law's call returns true and leaves the argument as it was. No condition.
-/
import Derived.Test.YtchijefibiaphaaLawLbl
import Derived.Test.YtchijefibiaphaaQh
namespace Go.Proofs.Ytchijefibiaphaa
open Go.ChangeShapes Go.WideShapes Go.ChangeAt Go.RowKit

set_option maxRecDepth 100000 in
theorem lbl_lifted (os : Os) (started : os.Started) (H : Type) (enc : TypeId × Value → H) :
    ReturnsInHanded {} Try.checked os 9 .any (Rows.fnExactLongestBarSpec.pre6 enc Try.prog Try.f9 Rows.fnExactLongestBarRow.domain false) (Rows.fnExactLongestBarSpec.post enc Try.prog Try.f9 false true false false) := by
  refine returnsInHanded_of_change (C := Try.checked) Try.own started (by kernel_rfl) Try.func9
    (ChangeSpec.witness6 (enc := enc) (C := Try.checked) false ⟨#[], #[.slice none 0 0], []⟩ 8 (by kernel_rfl) (by kernel_rfl) (by kernel_rfl) (by kernel_rfl)) ?_
  intro W base args ds gs before hval0 hW hcnd _
  have hval : ∀ (j : Nat) t v, Try.f9.params[j]? = some t → args[j]? = some v → Value.okWide Try.prog W .any base t v := hval0
  have hW' := hW
  obtain ⟨p, q, hA0, hV, rfl, hfz, hnd⟩ := hW
  have hA : DataW.TrodAll enc Try.prog W 0 (fun _ => true) true Try.f9.params.toList args.toList ds p := hA0
  rw [Try.params9] at hA hval
  obtain ⟨v0, d0, rfl, rfl, h0⟩ := trodAll_one hA
  obtain ⟨rfl, rfl⟩ := trodVars_none hV
  have k0 := h0
  have lt0 : ∀ x ∈ p, x.block < W.heap.size := by obtain ⟨m, hm⟩ := k0; exact DataW.trod_lt m _ _ _ hm
  obtain ⟨av0, lv0, cv0, rfl⟩ := okWide_slice Try.underlying39 (hval 0 39 v0 rfl rfl)
  obtain ⟨zs0, hx0, hml0⟩ : ∃ zs, Br 0 W (.slice av0 lv0 cv0) zs ∧ zs.length ≤ 9223372036854775807 := by
    obtain ⟨fuel, hf⟩ := h0
    exact bars_of_trod hf
  clear hA0 hval0
  refine (lawLbl_any _ zs0 W hx0 hml0).mono fun e W' ⟨he, bel⟩ => ?_
  subst he
  exact ⟨_, rfl, _, _, _, [], _, [], hW', trodAll_mk1 (shut_bool Try.underlying4 _), trodAll_mk1 (Below.trod Try.laidOut (by kernel_rfl) (of_decide_eq_true (by kernel_rfl)) k0 bel lt0), rfl, bel.frame _, fun h => by cases h⟩

set_option maxRecDepth 100000 in
theorem lbl_unf : Try.checked.prog.unfollowed 9 = true := by kernel_rfl
theorem lbl_rec : Try.checked.prog.recurses 9 = true := by
  unfold Program.recurses
  rw [lbl_unf, Bool.true_or]
set_option maxRecDepth 100000 in
set_option maxHeartbeats 40000000 in
theorem lbl_facts : joinedFacts Try.checked.prog 9 Try.f9 Rows.fnExactLongestBarSpec Rows.fnExactLongestBarRow = true := by
  unfold joinedFacts
  simp only [Try.mayEnter, Try.liftsFinal, Try.make, lbl_rec, lbl_unf, Bool.and_eq_true]
  and_intros
  all_goals first | exact trivial | (as_aux_lemma => kernel_rfl)

theorem lbl_named : Try.checked.prog.funcNamed Rows.fnExactLongestBarRow.func = some 9 := by kernel_rfl
theorem lbl_inst : Try.f9.isInstance Try.checked.prog Rows.fnExactLongestBarRow.origin Rows.fnExactLongestBarRow.targs := of_decide_eq_true (by kernel_rfl)
theorem lbl_wrap : Try.f9.isWrapper Try.checked.prog Rows.fnExactLongestBarRow.wrapper Rows.fnExactLongestBarRow.mainSum := by
  unfold Func.isWrapper
  first | (rw [if_pos (by decide +kernel)]; kernel_rfl) | (rw [if_neg (by decide +kernel)]; exact ⟨rfl, rfl⟩)

set_option maxHeartbeats 2000000 in
theorem lbl_over : Rows.fnExactLongestBarRow.holds Try.pinned (OpenSpec.ofChange Rows.fnExactLongestBarSpec) :=
  OpenClaim.holds_of_wide 9 Try.f9 rfl rfl rfl rfl rfl rfl rfl ⟨rfl, rfl, rfl, rfl, rfl⟩ rfl rfl rfl rfl rfl lbl_named Try.func9 lbl_facts
    lbl_inst lbl_wrap (fun os started H enc _ => lbl_lifted os started H enc)

theorem lbl_proved : Rows.FnExactLongestBarSaid := lbl_over
#print axioms lbl_proved
end Go.Proofs.Ytchijefibiaphaa
