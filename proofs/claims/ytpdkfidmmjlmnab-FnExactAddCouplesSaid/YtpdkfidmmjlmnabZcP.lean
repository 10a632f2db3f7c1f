/-
  FnExactAddCouples: for every two couple values that come in (whatever their numbers, sizes and sharing), the law's call returns true and leaves the arguments as they were. No condition.
-/
import Derived.Test.YtpdkfidmmjlmnabZc5
namespace Go.Proofs.Ytpdkfidmmjlmnab
open Go.ChangeShapes Go.WideShapes Go.ChangeAt Go.RowKit

set_option maxRecDepth 100000 in
theorem acl_lifted (os : Os) (started : os.Started) (H : Type) (enc : TypeId × Value → H) :
    ReturnsInHanded {} Try.checked os 17 .any (Rows.fnExactAddCouplesSpec.pre6 enc Try.prog Try.f17 Rows.fnExactAddCouplesRow.domain false) (Rows.fnExactAddCouplesSpec.post enc Try.prog Try.f17 false true false false) := by
  refine returnsInHanded_of_change (C := Try.checked) Try.own started (by kernel_rfl) Try.func17
    (ChangeSpec.witness6 (enc := enc) (C := Try.checked) false ⟨#[], #[.agg #[.int .i64 0, .int .i64 0, .int .i64 0, .slice none 0 0, .slice none 0 0, .slice none 0 0], .agg #[.int .i64 0, .int .i64 0, .int .i64 0, .slice none 0 0, .slice none 0 0, .slice none 0 0]], []⟩ 8 (by kernel_rfl) (by kernel_rfl) (by kernel_rfl) (by kernel_rfl)) ?_
  intro W base args ds gs before hval0 hW hcnd _
  have hval : ∀ (j : Nat) t v, Try.f17.params[j]? = some t → args[j]? = some v → Value.okWide Try.prog W .any base t v := hval0
  have hW' := hW
  obtain ⟨p, q, hA0, hV, rfl, hfz, hnd⟩ := hW
  have hA : DataW.TrodAll enc Try.prog W 0 (fun _ => true) true Try.f17.params.toList args.toList ds p := hA0
  rw [Try.params17] at hA hval
  obtain ⟨v0, v1, d0, d1, p0, p1, rfl, rfl, rfl, h0, h1⟩ := trodAll_two hA
  obtain ⟨rfl, rfl⟩ := trodVars_none hV
  have k0 := h0
  have lt0 : ∀ x ∈ p0, x.block < W.heap.size := by obtain ⟨m, hm⟩ := k0; exact DataW.trod_lt m _ _ _ hm
  obtain ⟨q0p, q0d, q0e, iv0, jv0, kv0, il0, jl0, kl0, rfl, hx0, hml0⟩ := couple_of_trod (hval 0 68 v0 rfl rfl) h0
  have k1 := h1
  have lt1 : ∀ x ∈ p1, x.block < W.heap.size := by obtain ⟨m, hm⟩ := k1; exact DataW.trod_lt m _ _ _ hm
  obtain ⟨q1p, q1d, q1e, iv1, jv1, kv1, il1, jl1, kl1, rfl, hx1, hml1⟩ := couple_of_trod (hval 1 68 v1 rfl rfl) h1
  clear hA0 hval0
  refine (lawAcl_any q0p q0d q0e iv0 jv0 kv0 il0 jl0 kl0 q1p q1d q1e iv1 jv1 kv1 il1 jl1 kl1 W hx0 hml0 hx1 hml1).mono fun e W' ⟨he, bel⟩ => ?_
  subst he
  exact ⟨_, rfl, _, _, _, [], _, [], hW', trodAll_mk1 (shut_bool Try.underlying4 _), trodAll_mk2 (Below.trod Try.laidOut (by kernel_rfl) (of_decide_eq_true (by kernel_rfl)) k0 bel lt0) (Below.trod Try.laidOut (by kernel_rfl) (of_decide_eq_true (by kernel_rfl)) k1 bel lt1), rfl, bel.frame _, fun h => by cases h⟩

set_option maxRecDepth 100000 in
theorem acl_unf : Try.checked.prog.unfollowed 17 = true := by kernel_rfl
theorem acl_rec : Try.checked.prog.recurses 17 = true := by
  unfold Program.recurses
  rw [acl_unf, Bool.true_or]
set_option maxRecDepth 100000 in
set_option maxHeartbeats 40000000 in
theorem acl_facts : joinedFacts Try.checked.prog 17 Try.f17 Rows.fnExactAddCouplesSpec Rows.fnExactAddCouplesRow = true := by
  unfold joinedFacts
  simp only [Try.mayEnter, Try.liftsFinal, Try.make, acl_rec, acl_unf, Bool.and_eq_true]
  and_intros
  all_goals first | exact trivial | (as_aux_lemma => kernel_rfl)

theorem acl_named : Try.checked.prog.funcNamed Rows.fnExactAddCouplesRow.func = some 17 := by kernel_rfl
theorem acl_inst : Try.f17.isInstance Try.checked.prog Rows.fnExactAddCouplesRow.origin Rows.fnExactAddCouplesRow.targs := of_decide_eq_true (by kernel_rfl)
theorem acl_wrap : Try.f17.isWrapper Try.checked.prog Rows.fnExactAddCouplesRow.wrapper Rows.fnExactAddCouplesRow.mainSum := by
  unfold Func.isWrapper
  first | (rw [if_pos (by decide +kernel)]; kernel_rfl) | (rw [if_neg (by decide +kernel)]; exact ⟨rfl, rfl⟩)

set_option maxHeartbeats 2000000 in
theorem acl_over : Rows.fnExactAddCouplesRow.holds Try.pinned (OpenSpec.ofChange Rows.fnExactAddCouplesSpec) :=
  OpenClaim.holds_of_wide 17 Try.f17 rfl rfl rfl rfl rfl rfl rfl ⟨rfl, rfl, rfl, rfl, rfl⟩ rfl rfl rfl rfl rfl acl_named Try.func17 acl_facts
    acl_inst acl_wrap (fun os started H enc _ => acl_lifted os started H enc)

theorem acl_proved : Rows.FnExactAddCouplesSaid := acl_over
#print axioms acl_proved
end Go.Proofs.Ytpdkfidmmjlmnab
