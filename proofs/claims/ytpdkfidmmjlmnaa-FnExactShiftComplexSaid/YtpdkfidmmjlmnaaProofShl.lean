/-
  FnExactShiftComplex: for every complex value and every number that come in (whatever their numbers, sizes and sharing), the law's call returns true and leaves the arguments as they were. No condition.
-/
import Derived.Test.YtpdkfidmmjlmnaaLawShl
import Derived.Test.YtpdkfidmmjlmnaaQh
namespace Go.Proofs.Ytpdkfidmmjlmnaa
open Go.ChangeShapes Go.WideShapes Go.ChangeAt Go.RowKit

set_option maxRecDepth 100000 in
theorem shl_lifted (os : Os) (started : os.Started) (H : Type) (enc : TypeId × Value → H) :
    ReturnsInHanded {} Try.checked os 14 .any (Rows.fnExactShiftComplexSpec.pre6 enc Try.prog Try.f14 Rows.fnExactShiftComplexRow.domain false) (Rows.fnExactShiftComplexSpec.post enc Try.prog Try.f14 false true false false) := by
  refine returnsInHanded_of_change (C := Try.checked) Try.own started (by kernel_rfl) Try.func14
    (ChangeSpec.witness6 (enc := enc) (C := Try.checked) false ⟨#[], #[.agg #[.int .i64 0, .slice none 0 0, .slice none 0 0], .int .i64 0], []⟩ 8 (by kernel_rfl) (by kernel_rfl) (by kernel_rfl) (by kernel_rfl)) ?_
  intro W base args ds gs before hval0 hW hcnd _
  have hval : ∀ (j : Nat) t v, Try.f14.params[j]? = some t → args[j]? = some v → Value.okWide Try.prog W .any base t v := hval0
  have hW' := hW
  obtain ⟨p, q, hA0, hV, rfl, hfz, hnd⟩ := hW
  have hA : DataW.TrodAll enc Try.prog W 0 (fun _ => true) true Try.f14.params.toList args.toList ds p := hA0
  rw [Try.params14] at hA hval
  obtain ⟨v0, v1, d0, d1, p0, p1, rfl, rfl, rfl, h0, h1⟩ := trodAll_two hA
  obtain ⟨rfl, rfl⟩ := trodVars_none hV
  have k0 := h0
  have lt0 : ∀ x ∈ p0, x.block < W.heap.size := by obtain ⟨m, hm⟩ := k0; exact DataW.trod_lt m _ _ _ hm
  obtain ⟨q0, dv0, mv0, xs0, ys0, rfl, hx0, hdl0, hml0⟩ := complex_of_trod (hval 0 25 v0 rfl rfl) h0
  obtain ⟨n1, rfl, rfl, rfl, wn1⟩ := open_int Try.underlying2 (hval 1 2 v1 rfl rfl) h1
  clear hA0 hval0
  refine (lawShl_any q0 dv0 mv0 xs0 ys0 n1 W hx0 hdl0 hml0).mono fun e W' ⟨he, bel⟩ => ?_
  subst he
  exact ⟨_, rfl, _, _, _, [], _, [], hW', trodAll_mk1 (shut_bool Try.underlying4 _), trodAll_mk2 (Below.trod Try.laidOut (by kernel_rfl) (of_decide_eq_true (by kernel_rfl)) k0 bel lt0) (shut_int Try.underlying2 wn1), rfl, bel.frame _, fun h => by cases h⟩

set_option maxRecDepth 100000 in
theorem shl_unf : Try.checked.prog.unfollowed 14 = false := by kernel_rfl
theorem shl_rec : Try.checked.prog.recurses 14 = false := Try.recurses shl_unf
set_option maxRecDepth 100000 in
set_option maxHeartbeats 40000000 in
theorem shl_facts : joinedFacts Try.checked.prog 14 Try.f14 Rows.fnExactShiftComplexSpec Rows.fnExactShiftComplexRow = true := by
  unfold joinedFacts
  simp only [Try.mayEnter, Try.liftsFinal, Try.make, shl_rec, shl_unf, Bool.and_eq_true]
  and_intros
  all_goals first | exact trivial | (as_aux_lemma => kernel_rfl)

theorem shl_named : Try.checked.prog.funcNamed Rows.fnExactShiftComplexRow.func = some 14 := by kernel_rfl
theorem shl_inst : Try.f14.isInstance Try.checked.prog Rows.fnExactShiftComplexRow.origin Rows.fnExactShiftComplexRow.targs := of_decide_eq_true (by kernel_rfl)
theorem shl_wrap : Try.f14.isWrapper Try.checked.prog Rows.fnExactShiftComplexRow.wrapper Rows.fnExactShiftComplexRow.mainSum := by
  unfold Func.isWrapper
  first | (rw [if_pos (by decide +kernel)]; kernel_rfl) | (rw [if_neg (by decide +kernel)]; exact ⟨rfl, rfl⟩)

set_option maxHeartbeats 2000000 in
theorem shl_over : Rows.fnExactShiftComplexRow.holds Try.pinned (OpenSpec.ofChange Rows.fnExactShiftComplexSpec) :=
  OpenClaim.holds_of_wide 14 Try.f14 rfl rfl rfl rfl rfl rfl rfl ⟨rfl, rfl, rfl, rfl, rfl⟩ rfl rfl rfl rfl rfl shl_named Try.func14 shl_facts
    shl_inst shl_wrap (fun os started H enc _ => shl_lifted os started H enc)

theorem shl_proved : Rows.FnExactShiftComplexSaid := shl_over
#print axioms shl_proved
end Go.Proofs.Ytpdkfidmmjlmnaa
