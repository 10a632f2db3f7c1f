/-
  FnExactRowHomology: for every double complex value that comes in (whatever its numbers, sizes and sharing), the law's call returns true and leaves the argument as it was. No condition.
-/
import Derived.Test.YtlopenephgabhaaGreatZf8
namespace Go.Proofs.YtlopenephgabhaaGreat
open Go.ChangeShapes Go.WideShapes Go.ChangeAt Go.RowKit

set_option maxRecDepth 100000 in
theorem rhl_lifted (os : Os) (started : os.Started) (H : Type) (enc : TypeId × Value → H) :
    ReturnsInHanded {} Tryz.checked os 3 .any (Rows.fnExactRowHomologySpec.pre6 enc Tryz.prog Tryz.f3 Rows.fnExactRowHomologyRow.domain false) (Rows.fnExactRowHomologySpec.post enc Tryz.prog Tryz.f3 false true false false) := by
  refine returnsInHanded_of_change (C := Tryz.checked) Tryz.own started (by kernel_rfl) Tryz.func3
    (ChangeSpec.witness6 (enc := enc) (C := Tryz.checked) false ⟨#[], #[.agg #[.int .i64 0, .slice none 0 0, .slice none 0 0, .slice none 0 0]], []⟩ 8 (by kernel_rfl) (by kernel_rfl) (by kernel_rfl) (by kernel_rfl)) ?_
  intro W base args ds gs before hval0 hW hcnd _
  have hval : ∀ (j : Nat) t v, Tryz.f3.params[j]? = some t → args[j]? = some v → Value.okWide Tryz.prog W .any base t v := hval0
  have hW' := hW
  obtain ⟨p, q, hA0, hV, rfl, hfz, hnd⟩ := hW
  have hA : DataW.TrodAll enc Tryz.prog W 0 (fun _ => true) true Tryz.f3.params.toList args.toList ds p := hA0
  rw [Tryz.params3] at hA hval
  obtain ⟨v0, d0, rfl, rfl, h0⟩ := trodAll_one hA
  obtain ⟨rfl, rfl⟩ := trodVars_none hV
  have k0 := h0
  have lt0 : ∀ x ∈ p, x.block < W.heap.size := by obtain ⟨m, hm⟩ := k0; exact DataW.trod_lt m _ _ _ hm
  obtain ⟨q0p, dv0, av0, vv0, dl0, al0, vl0, rfl, hx0, hml0⟩ := doublec_of_trod (hval 0 25 v0 rfl rfl) h0
  clear hA0 hval0
  refine (lawRhl_any q0p dv0 av0 vv0 dl0 al0 vl0 W hx0 hml0).mono fun e W' ⟨he, bel⟩ => ?_
  subst he
  exact ⟨_, rfl, _, _, _, [], _, [], hW', trodAll_mk1 (shut_bool Tryz.underlying4 _), trodAll_mk1 (Below.trod Tryz.laidOut (by kernel_rfl) (of_decide_eq_true (by kernel_rfl)) k0 bel lt0), rfl, bel.frame _, fun h => by cases h⟩

set_option maxRecDepth 100000 in
theorem rhl_unf : Tryz.checked.prog.unfollowed 3 = true := by kernel_rfl
theorem rhl_rec : Tryz.checked.prog.recurses 3 = true := by
  unfold Program.recurses
  rw [rhl_unf, Bool.true_or]
set_option maxRecDepth 100000 in
set_option maxHeartbeats 40000000 in
theorem rhl_facts : joinedFacts Tryz.checked.prog 3 Tryz.f3 Rows.fnExactRowHomologySpec Rows.fnExactRowHomologyRow = true := by
  unfold joinedFacts
  simp only [Tryz.mayEnter, Tryz.liftsFinal, Tryz.make, rhl_rec, rhl_unf, Bool.and_eq_true]
  and_intros
  all_goals first | exact trivial | (as_aux_lemma => kernel_rfl)

theorem rhl_named : Tryz.checked.prog.funcNamed Rows.fnExactRowHomologyRow.func = some 3 := by kernel_rfl
theorem rhl_inst : Tryz.f3.isInstance Tryz.checked.prog Rows.fnExactRowHomologyRow.origin Rows.fnExactRowHomologyRow.targs := of_decide_eq_true (by kernel_rfl)
theorem rhl_wrap : Tryz.f3.isWrapper Tryz.checked.prog Rows.fnExactRowHomologyRow.wrapper Rows.fnExactRowHomologyRow.mainSum := by
  unfold Func.isWrapper
  first | (rw [if_pos (by decide +kernel)]; kernel_rfl) | (rw [if_neg (by decide +kernel)]; exact ⟨rfl, rfl⟩)

set_option maxHeartbeats 2000000 in
theorem rhl_over : Rows.fnExactRowHomologyRow.holds Tryz.pinned (OpenSpec.ofChange Rows.fnExactRowHomologySpec) :=
  OpenClaim.holds_of_wide 3 Tryz.f3 rfl rfl rfl rfl rfl rfl rfl ⟨rfl, rfl, rfl, rfl, rfl⟩ rfl rfl rfl rfl rfl rhl_named Tryz.func3 rhl_facts
    rhl_inst rhl_wrap (fun os started H enc _ => rhl_lifted os started H enc)

theorem rhl_proved : Rows.FnExactRowHomologySaid := rhl_over
#print axioms rhl_proved
end Go.Proofs.YtlopenephgabhaaGreat
