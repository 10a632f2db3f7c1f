/-
  FnExactCountLasting: for every slice of bars and every number that come in, the law's call returns true and leaves the arguments as they were. No condition.
-/
import Derived.Test.YtchijefibiaphaaLawCll
import Derived.Test.YtchijefibiaphaaQh
namespace Go.Proofs.Ytchijefibiaphaa
open Go.ChangeShapes Go.WideShapes Go.ChangeAt Go.RowKit

set_option maxRecDepth 100000 in
theorem cll_lifted (os : Os) (started : os.Started) (H : Type) (enc : TypeId × Value → H) :
    ReturnsInHanded {} Try.checked os 7 .any (Rows.fnExactCountLastingSpec.pre6 enc Try.prog Try.f7 Rows.fnExactCountLastingRow.domain false) (Rows.fnExactCountLastingSpec.post enc Try.prog Try.f7 false true false false) := by
  refine returnsInHanded_of_change (C := Try.checked) Try.own started (by kernel_rfl) Try.func7
    (ChangeSpec.witness6 (enc := enc) (C := Try.checked) false ⟨#[], #[.slice none 0 0, .int .i64 0], []⟩ 8 (by kernel_rfl) (by kernel_rfl) (by kernel_rfl) (by kernel_rfl)) ?_
  intro W base args ds gs before hval0 hW hcnd _
  have hval : ∀ (j : Nat) t v, Try.f7.params[j]? = some t → args[j]? = some v → Value.okWide Try.prog W .any base t v := hval0
  have hW' := hW
  obtain ⟨p, q, hA0, hV, rfl, hfz, hnd⟩ := hW
  have hA : DataW.TrodAll enc Try.prog W 0 (fun _ => true) true Try.f7.params.toList args.toList ds p := hA0
  rw [Try.params7] at hA hval
  obtain ⟨v0, v1, d0, d1, p0, p1, rfl, rfl, rfl, h0, h1⟩ := trodAll_two hA
  obtain ⟨rfl, rfl⟩ := trodVars_none hV
  have k0 := h0
  have lt0 : ∀ x ∈ p0, x.block < W.heap.size := by obtain ⟨m, hm⟩ := k0; exact DataW.trod_lt m _ _ _ hm
  obtain ⟨av0, lv0, cv0, rfl⟩ := okWide_slice Try.underlying39 (hval 0 39 v0 rfl rfl)
  obtain ⟨zs0, hx0, hml0⟩ : ∃ zs, Br 0 W (.slice av0 lv0 cv0) zs ∧ zs.length ≤ 9223372036854775807 := by
    obtain ⟨fuel, hf⟩ := h0
    exact bars_of_trod hf
  obtain ⟨n1, rfl, rfl, rfl, wn1⟩ := open_int Try.underlying2 (hval 1 2 v1 rfl rfl) h1
  clear hA0 hval0
  refine (lawCll_any _ zs0 n1 W hx0 hml0).mono fun e W' ⟨he, bel⟩ => ?_
  subst he
  exact ⟨_, rfl, _, _, _, [], _, [], hW', trodAll_mk1 (shut_bool Try.underlying4 _), trodAll_mk2 (Below.trod Try.laidOut (by kernel_rfl) (of_decide_eq_true (by kernel_rfl)) k0 bel lt0) (shut_int Try.underlying2 wn1), rfl, bel.frame _, fun h => by cases h⟩

set_option maxRecDepth 100000 in
theorem cll_unf : Try.checked.prog.unfollowed 7 = true := by kernel_rfl
theorem cll_rec : Try.checked.prog.recurses 7 = true := by
  unfold Program.recurses
  rw [cll_unf, Bool.true_or]
set_option maxRecDepth 100000 in
set_option maxHeartbeats 40000000 in
theorem cll_facts : joinedFacts Try.checked.prog 7 Try.f7 Rows.fnExactCountLastingSpec Rows.fnExactCountLastingRow = true := by
  unfold joinedFacts
  simp only [Try.mayEnter, Try.liftsFinal, Try.make, cll_rec, cll_unf, Bool.and_eq_true]
  and_intros
  all_goals first | exact trivial | (as_aux_lemma => kernel_rfl)

theorem cll_named : Try.checked.prog.funcNamed Rows.fnExactCountLastingRow.func = some 7 := by kernel_rfl
theorem cll_inst : Try.f7.isInstance Try.checked.prog Rows.fnExactCountLastingRow.origin Rows.fnExactCountLastingRow.targs := of_decide_eq_true (by kernel_rfl)
theorem cll_wrap : Try.f7.isWrapper Try.checked.prog Rows.fnExactCountLastingRow.wrapper Rows.fnExactCountLastingRow.mainSum := by
  unfold Func.isWrapper
  first | (rw [if_pos (by decide +kernel)]; kernel_rfl) | (rw [if_neg (by decide +kernel)]; exact ⟨rfl, rfl⟩)

set_option maxHeartbeats 2000000 in
theorem cll_over : Rows.fnExactCountLastingRow.holds Try.pinned (OpenSpec.ofChange Rows.fnExactCountLastingSpec) :=
  OpenClaim.holds_of_wide 7 Try.f7 rfl rfl rfl rfl rfl rfl rfl ⟨rfl, rfl, rfl, rfl, rfl⟩ rfl rfl rfl rfl rfl cll_named Try.func7 cll_facts
    cll_inst cll_wrap (fun os started H enc _ => cll_lifted os started H enc)

theorem cll_proved : Rows.FnExactCountLastingSaid := cll_over
#print axioms cll_proved
end Go.Proofs.Ytchijefibiaphaa
