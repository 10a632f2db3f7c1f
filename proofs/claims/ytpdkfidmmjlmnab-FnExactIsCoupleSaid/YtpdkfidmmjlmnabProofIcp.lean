/-
  FnExactIsCouple: for every couple value that comes in (whatever its numbers, sizes and sharing), the law's call returns true and leaves the argument as it was. No condition.
-/
import Derived.Test.YtpdkfidmmjlmnabLawIcp
import Derived.Test.YtpdkfidmmjlmnabQh
namespace Go.Proofs.Ytpdkfidmmjlmnab
open Go.ChangeShapes Go.WideShapes Go.ChangeAt Go.RowKit

set_option maxRecDepth 100000 in
theorem icp_lifted (os : Os) (started : os.Started) (H : Type) (enc : TypeId × Value → H) :
    ReturnsInHanded {} Try.checked os 15 .any (Rows.fnExactIsCoupleSpec.pre6 enc Try.prog Try.f15 Rows.fnExactIsCoupleRow.domain false) (Rows.fnExactIsCoupleSpec.post enc Try.prog Try.f15 false true false false) := by
  refine returnsInHanded_of_change (C := Try.checked) Try.own started (by kernel_rfl) Try.func15
    (ChangeSpec.witness6 (enc := enc) (C := Try.checked) false ⟨#[], #[.agg #[.int .i64 0, .int .i64 0, .int .i64 0, .slice none 0 0, .slice none 0 0, .slice none 0 0]], []⟩ 8 (by kernel_rfl) (by kernel_rfl) (by kernel_rfl) (by kernel_rfl)) ?_
  intro W base args ds gs before hval0 hW hcnd _
  have hval : ∀ (j : Nat) t v, Try.f15.params[j]? = some t → args[j]? = some v → Value.okWide Try.prog W .any base t v := hval0
  have hW' := hW
  obtain ⟨p, q, hA0, hV, rfl, hfz, hnd⟩ := hW
  have hA : DataW.TrodAll enc Try.prog W 0 (fun _ => true) true Try.f15.params.toList args.toList ds p := hA0
  rw [Try.params15] at hA hval
  obtain ⟨v0, d0, rfl, rfl, h0⟩ := trodAll_one hA
  obtain ⟨rfl, rfl⟩ := trodVars_none hV
  have k0 := h0
  have lt0 : ∀ x ∈ p, x.block < W.heap.size := by obtain ⟨m, hm⟩ := k0; exact DataW.trod_lt m _ _ _ hm
  obtain ⟨q0p, q0d, q0e, iv0, jv0, kv0, il0, jl0, kl0, rfl, hx0, hml0⟩ := couple_of_trod (hval 0 68 v0 rfl rfl) h0
  clear hA0 hval0
  refine (lawIcp_any q0p q0d q0e iv0 jv0 kv0 il0 jl0 kl0 W hx0 hml0).mono fun e W' ⟨he, bel⟩ => ?_
  subst he
  exact ⟨_, rfl, _, _, _, [], _, [], hW', trodAll_mk1 (shut_bool Try.underlying4 _), trodAll_mk1 (Below.trod Try.laidOut (by kernel_rfl) (of_decide_eq_true (by kernel_rfl)) k0 bel lt0), rfl, bel.frame _, fun h => by cases h⟩

set_option maxRecDepth 100000 in
theorem icp_unf : Try.checked.prog.unfollowed 15 = true := by kernel_rfl
theorem icp_rec : Try.checked.prog.recurses 15 = true := by
  unfold Program.recurses
  rw [icp_unf, Bool.true_or]
set_option maxRecDepth 100000 in
set_option maxHeartbeats 40000000 in
theorem icp_facts : joinedFacts Try.checked.prog 15 Try.f15 Rows.fnExactIsCoupleSpec Rows.fnExactIsCoupleRow = true := by
  unfold joinedFacts
  simp only [Try.mayEnter, Try.liftsFinal, Try.make, icp_rec, icp_unf, Bool.and_eq_true]
  and_intros
  all_goals first | exact trivial | (as_aux_lemma => kernel_rfl)

theorem icp_named : Try.checked.prog.funcNamed Rows.fnExactIsCoupleRow.func = some 15 := by kernel_rfl
theorem icp_inst : Try.f15.isInstance Try.checked.prog Rows.fnExactIsCoupleRow.origin Rows.fnExactIsCoupleRow.targs := of_decide_eq_true (by kernel_rfl)
theorem icp_wrap : Try.f15.isWrapper Try.checked.prog Rows.fnExactIsCoupleRow.wrapper Rows.fnExactIsCoupleRow.mainSum := by
  unfold Func.isWrapper
  first | (rw [if_pos (by decide +kernel)]; kernel_rfl) | (rw [if_neg (by decide +kernel)]; exact ⟨rfl, rfl⟩)

set_option maxHeartbeats 2000000 in
theorem icp_over : Rows.fnExactIsCoupleRow.holds Try.pinned (OpenSpec.ofChange Rows.fnExactIsCoupleSpec) :=
  OpenClaim.holds_of_wide 15 Try.f15 rfl rfl rfl rfl rfl rfl rfl ⟨rfl, rfl, rfl, rfl, rfl⟩ rfl rfl rfl rfl rfl icp_named Try.func15 icp_facts
    icp_inst icp_wrap (fun os started H enc _ => icp_lifted os started H enc)

theorem icp_proved : Rows.FnExactIsCoupleSaid := icp_over
#print axioms icp_proved
end Go.Proofs.Ytpdkfidmmjlmnab
