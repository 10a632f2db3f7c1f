/-
  FnExactPairVectors: for every two complex values, two numbers and two lists that come in (whatever their numbers, sizes and sharing), the law's call returns true and leaves the arguments as they were. No condition.
-/
import Derived.Test.YtiokagnolbddlaaLawPvl
import Derived.Test.YtiokagnolbddlaaQh
import Derived.Test.YtiokagnolbddlaaTr6
namespace Go.Proofs.Ytiokagnolbddlaa
open Go.ChangeShapes Go.WideShapes Go.ChangeAt Go.RowKit

set_option maxRecDepth 100000 in
theorem pvl_lifted (os : Os) (started : os.Started) (H : Type) (enc : TypeId × Value → H) :
    ReturnsInHanded {} Try.checked os 10 .any (Rows.fnExactPairVectorsSpec.pre6 enc Try.prog Try.f10 Rows.fnExactPairVectorsRow.domain false) (Rows.fnExactPairVectorsSpec.post enc Try.prog Try.f10 false true false false) := by
  refine returnsInHanded_of_change (C := Try.checked) Try.own started (by kernel_rfl) Try.func10
    (ChangeSpec.witness6 (enc := enc) (C := Try.checked) false ⟨#[], #[.agg #[.int .i64 0, .slice none 0 0, .slice none 0 0], .agg #[.int .i64 0, .slice none 0 0, .slice none 0 0], .int .i64 0, .slice none 0 0, .int .i64 0, .slice none 0 0], []⟩ 8 (by kernel_rfl) (by kernel_rfl) (by kernel_rfl) (by kernel_rfl)) ?_
  intro W base args ds gs before hval0 hW hcnd _
  have hval : ∀ (j : Nat) t v, Try.f10.params[j]? = some t → args[j]? = some v → Value.okWide Try.prog W .any base t v := hval0
  have hW' := hW
  obtain ⟨p, q, hA0, hV, rfl, hfz, hnd⟩ := hW
  have hA : DataW.TrodAll enc Try.prog W 0 (fun _ => true) true Try.f10.params.toList args.toList ds p := hA0
  rw [Try.params10] at hA hval
  obtain ⟨v0, v1, v2, v3, v4, v5, d0, d1, d2, d3, d4, d5, p0, p1, p2, p3, p4, p5, rfl, rfl, rfl, h0, h1, h2, h3, h4, h5⟩ := trodAll_six hA
  obtain ⟨rfl, rfl⟩ := trodVars_none hV
  have k0 := h0
  have lt0 : ∀ x ∈ p0, x.block < W.heap.size := by obtain ⟨m, hm⟩ := k0; exact DataW.trod_lt m _ _ _ hm
  obtain ⟨q0, dv0, mv0, xs0, ys0, rfl, hx0, hdl0, hml0⟩ := complex_of_trod (hval 0 59 v0 rfl rfl) h0
  have k1 := h1
  have lt1 : ∀ x ∈ p1, x.block < W.heap.size := by obtain ⟨m, hm⟩ := k1; exact DataW.trod_lt m _ _ _ hm
  obtain ⟨q1, dv1, mv1, xs1, ys1, rfl, hx1, hdl1, hml1⟩ := complex_of_trod (hval 1 59 v1 rfl rfl) h1
  obtain ⟨n2, rfl, rfl, rfl, wn2⟩ := open_int Try.underlying2 (hval 2 2 v2 rfl rfl) h2
  have k3 := h3
  have lt3 : ∀ x ∈ p3, x.block < W.heap.size := by obtain ⟨m, hm⟩ := k3; exact DataW.trod_lt m _ _ _ hm
  obtain ⟨av3, lv3, cv3, rfl⟩ := okWide_slice Try.underlying22 (hval 3 22 v3 rfl rfl)
  obtain ⟨zs3, hx3, hml3⟩ : ∃ zs, L1 0 W (.slice av3 lv3 cv3) zs ∧ Bd1 9223372036854775807 zs := by
    obtain ⟨fuel, hf⟩ := h3
    exact l1_of_trod hf
  obtain ⟨n4, rfl, rfl, rfl, wn4⟩ := open_int Try.underlying2 (hval 4 2 v4 rfl rfl) h4
  have k5 := h5
  have lt5 : ∀ x ∈ p5, x.block < W.heap.size := by obtain ⟨m, hm⟩ := k5; exact DataW.trod_lt m _ _ _ hm
  obtain ⟨av5, lv5, cv5, rfl⟩ := okWide_slice Try.underlying22 (hval 5 22 v5 rfl rfl)
  obtain ⟨zs5, hx5, hml5⟩ : ∃ zs, L1 0 W (.slice av5 lv5 cv5) zs ∧ Bd1 9223372036854775807 zs := by
    obtain ⟨fuel, hf⟩ := h5
    exact l1_of_trod hf
  clear hA0 hval0
  refine (lawPvl_any q0 dv0 mv0 xs0 ys0 q1 dv1 mv1 xs1 ys1 n2 _ zs3 n4 _ zs5 W hx0 hdl0 hml0 hx1 hdl1 hml1 hx3 hml3 hx5 hml5).mono fun e W' ⟨he, bel⟩ => ?_
  subst he
  exact ⟨_, rfl, _, _, _, [], _, [], hW', trodAll_mk1 (shut_bool Try.underlying4 _), trodAll_mk6 (Below.trod Try.laidOut (by kernel_rfl) (of_decide_eq_true (by kernel_rfl)) k0 bel lt0) (Below.trod Try.laidOut (by kernel_rfl) (of_decide_eq_true (by kernel_rfl)) k1 bel lt1) (shut_int Try.underlying2 wn2) (Below.trod Try.laidOut (by kernel_rfl) (of_decide_eq_true (by kernel_rfl)) k3 bel lt3) (shut_int Try.underlying2 wn4) (Below.trod Try.laidOut (by kernel_rfl) (of_decide_eq_true (by kernel_rfl)) k5 bel lt5), rfl, bel.frame _, fun h => by cases h⟩

set_option maxRecDepth 100000 in
theorem pvl_unf : Try.checked.prog.unfollowed 10 = false := by kernel_rfl
theorem pvl_rec : Try.checked.prog.recurses 10 = false := Try.recurses pvl_unf
set_option maxRecDepth 100000 in
set_option maxHeartbeats 40000000 in
theorem pvl_facts : joinedFacts Try.checked.prog 10 Try.f10 Rows.fnExactPairVectorsSpec Rows.fnExactPairVectorsRow = true := by
  unfold joinedFacts
  simp only [Try.mayEnter, Try.liftsFinal, Try.make, pvl_rec, pvl_unf, Bool.and_eq_true]
  and_intros
  all_goals first | exact trivial | (as_aux_lemma => kernel_rfl)

theorem pvl_named : Try.checked.prog.funcNamed Rows.fnExactPairVectorsRow.func = some 10 := by kernel_rfl
theorem pvl_inst : Try.f10.isInstance Try.checked.prog Rows.fnExactPairVectorsRow.origin Rows.fnExactPairVectorsRow.targs := of_decide_eq_true (by kernel_rfl)
theorem pvl_wrap : Try.f10.isWrapper Try.checked.prog Rows.fnExactPairVectorsRow.wrapper Rows.fnExactPairVectorsRow.mainSum := by
  unfold Func.isWrapper
  first | (rw [if_pos (by decide +kernel)]; kernel_rfl) | (rw [if_neg (by decide +kernel)]; exact ⟨rfl, rfl⟩)

set_option maxHeartbeats 2000000 in
theorem pvl_over : Rows.fnExactPairVectorsRow.holds Try.pinned (OpenSpec.ofChange Rows.fnExactPairVectorsSpec) :=
  OpenClaim.holds_of_wide 10 Try.f10 rfl rfl rfl rfl rfl rfl rfl ⟨rfl, rfl, rfl, rfl, rfl⟩ rfl rfl rfl rfl rfl pvl_named Try.func10 pvl_facts
    pvl_inst pvl_wrap (fun os started H enc _ => pvl_lifted os started H enc)

theorem pvl_proved : Rows.FnExactPairVectorsSaid := pvl_over
#print axioms pvl_proved
end Go.Proofs.Ytiokagnolbddlaa
