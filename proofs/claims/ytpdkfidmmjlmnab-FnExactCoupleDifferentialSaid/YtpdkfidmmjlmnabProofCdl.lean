/-
  FnExactCoupleDifferential: for every couple value that comes in (whatever its numbers, sizes and sharing), the law's call returns true and leaves the argument as it was. No condition.
-/
import Derived.Test.YtpdkfidmmjlmnabLawCdl
import Derived.Test.YtpdkfidmmjlmnabQh
namespace Go.Proofs.Ytpdkfidmmjlmnab
open Go.ChangeShapes Go.WideShapes Go.ChangeAt Go.RowKit

set_option maxRecDepth 100000 in
theorem cdl_lifted (os : Os) (started : os.Started) (H : Type) (enc : TypeId × Value → H) :
    ReturnsInHanded {} Try.checked os 16 .any (Rows.fnExactCoupleDifferentialSpec.pre6 enc Try.prog Try.f16 Rows.fnExactCoupleDifferentialRow.domain false) (Rows.fnExactCoupleDifferentialSpec.post enc Try.prog Try.f16 false true false false) := by
  refine returnsInHanded_of_change (C := Try.checked) Try.own started (by kernel_rfl) Try.func16
    (ChangeSpec.witness6 (enc := enc) (C := Try.checked) false ⟨#[], #[.agg #[.int .i64 0, .int .i64 0, .int .i64 0, .slice none 0 0, .slice none 0 0, .slice none 0 0]], []⟩ 8 (by kernel_rfl) (by kernel_rfl) (by kernel_rfl) (by kernel_rfl)) ?_
  intro W base args ds gs before hval0 hW hcnd _
  have hval : ∀ (j : Nat) t v, Try.f16.params[j]? = some t → args[j]? = some v → Value.okWide Try.prog W .any base t v := hval0
  have hW' := hW
  obtain ⟨p, q, hA0, hV, rfl, hfz, hnd⟩ := hW
  have hA : DataW.TrodAll enc Try.prog W 0 (fun _ => true) true Try.f16.params.toList args.toList ds p := hA0
  rw [Try.params16] at hA hval
  obtain ⟨v0, d0, rfl, rfl, h0⟩ := trodAll_one hA
  obtain ⟨rfl, rfl⟩ := trodVars_none hV
  have k0 := h0
  have lt0 : ∀ x ∈ p, x.block < W.heap.size := by obtain ⟨m, hm⟩ := k0; exact DataW.trod_lt m _ _ _ hm
  obtain ⟨q0p, q0d, q0e, iv0, jv0, kv0, il0, jl0, kl0, rfl, hx0, hml0⟩ := couple_of_trod (hval 0 68 v0 rfl rfl) h0
  clear hA0 hval0
  refine (lawCdl_any q0p q0d q0e iv0 jv0 kv0 il0 jl0 kl0 W hx0 hml0).mono fun e W' ⟨he, bel⟩ => ?_
  subst he
  exact ⟨_, rfl, _, _, _, [], _, [], hW', trodAll_mk1 (shut_bool Try.underlying4 _), trodAll_mk1 (Below.trod Try.laidOut (by kernel_rfl) (of_decide_eq_true (by kernel_rfl)) k0 bel lt0), rfl, bel.frame _, fun h => by cases h⟩

set_option maxRecDepth 100000 in
theorem cdl_unf : Try.checked.prog.unfollowed 16 = true := by kernel_rfl
theorem cdl_rec : Try.checked.prog.recurses 16 = true := by
  unfold Program.recurses
  rw [cdl_unf, Bool.true_or]
set_option maxRecDepth 100000 in
set_option maxHeartbeats 40000000 in
theorem cdl_facts : joinedFacts Try.checked.prog 16 Try.f16 Rows.fnExactCoupleDifferentialSpec Rows.fnExactCoupleDifferentialRow = true := by
  unfold joinedFacts
  simp only [Try.mayEnter, Try.liftsFinal, Try.make, cdl_rec, cdl_unf, Bool.and_eq_true]
  and_intros
  all_goals first | exact trivial | (as_aux_lemma => kernel_rfl)

theorem cdl_named : Try.checked.prog.funcNamed Rows.fnExactCoupleDifferentialRow.func = some 16 := by kernel_rfl
theorem cdl_inst : Try.f16.isInstance Try.checked.prog Rows.fnExactCoupleDifferentialRow.origin Rows.fnExactCoupleDifferentialRow.targs := of_decide_eq_true (by kernel_rfl)
theorem cdl_wrap : Try.f16.isWrapper Try.checked.prog Rows.fnExactCoupleDifferentialRow.wrapper Rows.fnExactCoupleDifferentialRow.mainSum := by
  unfold Func.isWrapper
  first | (rw [if_pos (by decide +kernel)]; kernel_rfl) | (rw [if_neg (by decide +kernel)]; exact ⟨rfl, rfl⟩)

set_option maxHeartbeats 2000000 in
theorem cdl_over : Rows.fnExactCoupleDifferentialRow.holds Try.pinned (OpenSpec.ofChange Rows.fnExactCoupleDifferentialSpec) :=
  OpenClaim.holds_of_wide 16 Try.f16 rfl rfl rfl rfl rfl rfl rfl ⟨rfl, rfl, rfl, rfl, rfl⟩ rfl rfl rfl rfl rfl cdl_named Try.func16 cdl_facts
    cdl_inst cdl_wrap (fun os started H enc _ => cdl_lifted os started H enc)

theorem cdl_proved : Rows.FnExactCoupleDifferentialSaid := cdl_over
#print axioms cdl_proved
end Go.Proofs.Ytpdkfidmmjlmnab
