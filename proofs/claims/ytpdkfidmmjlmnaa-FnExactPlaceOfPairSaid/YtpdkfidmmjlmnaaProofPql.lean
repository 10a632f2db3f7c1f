/-
  FnExactPlaceOfPair: for every two complex values and four numbers that come in (whatever their numbers, sizes and sharing), the law's call returns true and leaves the arguments as they were. No condition.
-/
import Derived.Test.YtpdkfidmmjlmnaaLawPql
import Derived.Test.YtpdkfidmmjlmnaaQh
import Derived.Test.YtpdkfidmmjlmnaaTr6
namespace Go.Proofs.Ytpdkfidmmjlmnaa
open Go.ChangeShapes Go.WideShapes Go.ChangeAt Go.RowKit

set_option maxRecDepth 100000 in
theorem pql_lifted (os : Os) (started : os.Started) (H : Type) (enc : TypeId × Value → H) :
    ReturnsInHanded {} Try.checked os 17 .any (Rows.fnExactPlaceOfPairSpec.pre6 enc Try.prog Try.f17 Rows.fnExactPlaceOfPairRow.domain false) (Rows.fnExactPlaceOfPairSpec.post enc Try.prog Try.f17 false true false false) := by
  refine returnsInHanded_of_change (C := Try.checked) Try.own started (by kernel_rfl) Try.func17
    (ChangeSpec.witness6 (enc := enc) (C := Try.checked) false ⟨#[], #[.agg #[.int .i64 0, .slice none 0 0, .slice none 0 0], .agg #[.int .i64 0, .slice none 0 0, .slice none 0 0], .int .i64 0, .int .i64 0, .int .i64 0, .int .i64 0], []⟩ 8 (by kernel_rfl) (by kernel_rfl) (by kernel_rfl) (by kernel_rfl)) ?_
  intro W base args ds gs before hval0 hW hcnd _
  have hval : ∀ (j : Nat) t v, Try.f17.params[j]? = some t → args[j]? = some v → Value.okWide Try.prog W .any base t v := hval0
  have hW' := hW
  obtain ⟨p, q, hA0, hV, rfl, hfz, hnd⟩ := hW
  have hA : DataW.TrodAll enc Try.prog W 0 (fun _ => true) true Try.f17.params.toList args.toList ds p := hA0
  rw [Try.params17] at hA hval
  obtain ⟨v0, v1, v2, v3, v4, v5, d0, d1, d2, d3, d4, d5, p0, p1, p2, p3, p4, p5, rfl, rfl, rfl, h0, h1, h2, h3, h4, h5⟩ := trodAll_six hA
  obtain ⟨rfl, rfl⟩ := trodVars_none hV
  have k0 := h0
  have lt0 : ∀ x ∈ p0, x.block < W.heap.size := by obtain ⟨m, hm⟩ := k0; exact DataW.trod_lt m _ _ _ hm
  obtain ⟨q0, dv0, mv0, xs0, ys0, rfl, hx0, hdl0, hml0⟩ := complex_of_trod (hval 0 25 v0 rfl rfl) h0
  have k1 := h1
  have lt1 : ∀ x ∈ p1, x.block < W.heap.size := by obtain ⟨m, hm⟩ := k1; exact DataW.trod_lt m _ _ _ hm
  obtain ⟨q1, dv1, mv1, xs1, ys1, rfl, hx1, hdl1, hml1⟩ := complex_of_trod (hval 1 25 v1 rfl rfl) h1
  obtain ⟨n2, rfl, rfl, rfl, wn2⟩ := open_int Try.underlying2 (hval 2 2 v2 rfl rfl) h2
  obtain ⟨n3, rfl, rfl, rfl, wn3⟩ := open_int Try.underlying2 (hval 3 2 v3 rfl rfl) h3
  obtain ⟨n4, rfl, rfl, rfl, wn4⟩ := open_int Try.underlying2 (hval 4 2 v4 rfl rfl) h4
  obtain ⟨n5, rfl, rfl, rfl, wn5⟩ := open_int Try.underlying2 (hval 5 2 v5 rfl rfl) h5
  clear hA0 hval0
  refine (lawPql_any q0 dv0 mv0 xs0 ys0 q1 dv1 mv1 xs1 ys1 n2 n3 n4 n5 W hx0 hdl0 hml0 hx1 hdl1 hml1 ⟨wn2, wn3, wn4, wn5⟩).mono fun e W' ⟨he, bel⟩ => ?_
  subst he
  exact ⟨_, rfl, _, _, _, [], _, [], hW', trodAll_mk1 (shut_bool Try.underlying4 _), trodAll_mk6 (Below.trod Try.laidOut (by kernel_rfl) (of_decide_eq_true (by kernel_rfl)) k0 bel lt0) (Below.trod Try.laidOut (by kernel_rfl) (of_decide_eq_true (by kernel_rfl)) k1 bel lt1) (shut_int Try.underlying2 wn2) (shut_int Try.underlying2 wn3) (shut_int Try.underlying2 wn4) (shut_int Try.underlying2 wn5), rfl, bel.frame _, fun h => by cases h⟩

set_option maxRecDepth 100000 in
theorem pql_unf : Try.checked.prog.unfollowed 17 = false := by kernel_rfl
theorem pql_rec : Try.checked.prog.recurses 17 = false := Try.recurses pql_unf
set_option maxRecDepth 100000 in
set_option maxHeartbeats 40000000 in
theorem pql_facts : joinedFacts Try.checked.prog 17 Try.f17 Rows.fnExactPlaceOfPairSpec Rows.fnExactPlaceOfPairRow = true := by
  unfold joinedFacts
  simp only [Try.mayEnter, Try.liftsFinal, Try.make, pql_rec, pql_unf, Bool.and_eq_true]
  and_intros
  all_goals first | exact trivial | (as_aux_lemma => kernel_rfl)

theorem pql_named : Try.checked.prog.funcNamed Rows.fnExactPlaceOfPairRow.func = some 17 := by kernel_rfl
theorem pql_inst : Try.f17.isInstance Try.checked.prog Rows.fnExactPlaceOfPairRow.origin Rows.fnExactPlaceOfPairRow.targs := of_decide_eq_true (by kernel_rfl)
theorem pql_wrap : Try.f17.isWrapper Try.checked.prog Rows.fnExactPlaceOfPairRow.wrapper Rows.fnExactPlaceOfPairRow.mainSum := by
  unfold Func.isWrapper
  first | (rw [if_pos (by decide +kernel)]; kernel_rfl) | (rw [if_neg (by decide +kernel)]; exact ⟨rfl, rfl⟩)

set_option maxHeartbeats 2000000 in
theorem pql_over : Rows.fnExactPlaceOfPairRow.holds Try.pinned (OpenSpec.ofChange Rows.fnExactPlaceOfPairSpec) :=
  OpenClaim.holds_of_wide 17 Try.f17 rfl rfl rfl rfl rfl rfl rfl ⟨rfl, rfl, rfl, rfl, rfl⟩ rfl rfl rfl rfl rfl pql_named Try.func17 pql_facts
    pql_inst pql_wrap (fun os started H enc _ => pql_lifted os started H enc)

theorem pql_proved : Rows.FnExactPlaceOfPairSaid := pql_over
#print axioms pql_proved
end Go.Proofs.Ytpdkfidmmjlmnaa
