/-
  FnExactDerivedCouple: for every couple value that comes in (whatever its numbers, sizes and sharing), the law's call returns true and leaves the argument as it was. The package-level variable errNotExact holds what the program's text lays. No other condition.
-/
import Derived.Test.YtckkbojankfdfaaDoorZd8
namespace Go.Proofs.YtckkbojankfdfaaDoor
open Go.ChangeShapes Go.WideShapes Go.ChangeAt Go.RowKit

set_option maxRecDepth 100000 in
theorem dcl_reads (os : Os) {H : Type} (enc : TypeId × Value → H) : ∃ places, DataW.whole enc Tryd.prog ((dorWorld os).forCall (fun _ _ => 0) ⟨#[], #[.agg #[.int .i64 0, .int .i64 0, .int .i64 0, .slice none 0 0, .slice none 0 0, .slice none 0 0]], []⟩).memory Tryd.f3.params.toList Rows.fnExactDerivedCoupleSpec.vars false (#[.agg #[.int .i64 0, .int .i64 0, .int .i64 0, .slice none 0 0, .slice none 0 0, .slice none 0 0]] : Array Value).toList 8 = some ([.agg [.lit (.int .i64 0), .lit (.int .i64 0), .lit (.int .i64 0), .nil, .nil, .nil]], [tok enc (.iface 109 (.pointer (some ⟨dorLow, 0, none⟩)))], places) := ⟨[.cell 0 0], by kernel_rfl⟩
set_option maxRecDepth 100000 in
theorem dcl_lifted (os : Os) (started : os.Started) (H : Type) (enc : TypeId × Value → H) (F : Stop.Interp) :
    ReturnsInHanded {} Tryd.checked os 3 .any ((OpenSpec.ofChange Rows.fnExactDerivedCoupleSpec).preRow enc Tryd.prog Tryd.f3 Rows.fnExactDerivedCoupleRow.domain false Rows.fnExactDerivedCoupleRow.laid) (((OpenSpec.ofChange Rows.fnExactDerivedCoupleSpec).at F).post enc Tryd.prog Tryd.f3 false true false false) := by
  obtain ⟨places, hx⟩ := dcl_reads os enc
  refine returnsInHanded_of_row (C := Tryd.checked) (s := OpenSpec.ofChange Rows.fnExactDerivedCoupleSpec) Tryd.own started (by kernel_rfl) Tryd.func3
    (witness_row_at (enc := enc) (C := Tryd.checked) false (dorWorld os) #[.agg #[.int .i64 0, .int .i64 0, .int .i64 0, .slice none 0 0, .slice none 0 0, .slice none 0 0]] rfl (by kernel_rfl) (by kernel_rfl) (by kernel_rfl)
      (OpenSpec.preRow_of_cond 8 hx (by kernel_rfl) (fun k hk => by cases hk) (by kernel_rfl) (dor_met os _))) ?_
  intro W base args ds gs before hval0 hW _ _ _ hL _ _
  have hval : ∀ (j : Nat) t v, Tryd.f3.params[j]? = some t → args[j]? = some v → Value.okWide Tryd.prog W .any base t v := hval0
  have hW' := hW
  obtain ⟨p, q, hA0, hV, rfl, hfz, hnd⟩ := hW
  have hA : DataW.TrodAll enc Tryd.prog W 0 (fun _ => true) true Tryd.f3.params.toList args.toList ds p := hA0
  rw [Tryd.params3] at hA hval
  obtain ⟨v0, d0, rfl, rfl, h0⟩ := trodAll_one hA
  obtain ⟨aE, hvE⟩ := dor_open hL
  have hV2 : DataW.TrodVars enc Tryd.prog W (fun _ => true) ["loop.example/g01273/impl.errNotExact"] gs q := hV
  obtain ⟨rfl, rfl⟩ := hV2.unique (dor_vars enc hvE trivial _)
  clear hV
  have k0 := h0
  have lt0 : ∀ x ∈ p, x.block < W.heap.size := by obtain ⟨m, hm⟩ := k0; exact DataW.trod_lt m _ _ _ hm
  obtain ⟨q0p, q0d, q0e, iv0, jv0, kv0, il0, jl0, kl0, rfl, hx0, hml0⟩ := couple_of_trod (hval 0 24 v0 rfl rfl) h0
  clear hA0 hval0
  refine (lawDcl_any q0p q0d q0e iv0 jv0 kv0 il0 jl0 kl0 W hx0 hml0 (dor_cell hvE)).mono fun e W' ⟨he, bel⟩ => ?_
  subst he
  exact ⟨_, rfl, _, _, _, [], _, [.cell 0 0], hW', trodAll_mk1 (shut_bool Tryd.underlying4 _), trodAll_mk1 (Below.trod Tryd.laidOut (by kernel_rfl) (of_decide_eq_true (by kernel_rfl)) k0 bel lt0), dor_vars enc (dor_below bel hvE) trivial _, bel.frame _, fun h => by cases h⟩

set_option maxRecDepth 100000 in
theorem dcl_unf : Tryd.checked.prog.unfollowed 3 = true := by kernel_rfl
theorem dcl_rec : Tryd.checked.prog.recurses 3 = true := by
  unfold Program.recurses
  rw [dcl_unf, Bool.true_or]
set_option maxRecDepth 100000 in
set_option maxHeartbeats 40000000 in
theorem dcl_facts : joinedFacts Tryd.checked.prog 3 Tryd.f3 Rows.fnExactDerivedCoupleSpec Rows.fnExactDerivedCoupleRow = true := by
  unfold joinedFacts
  simp only [Tryd.mayEnter, Tryd.liftsFinal, Tryd.make, dcl_rec, dcl_unf, Bool.and_eq_true]
  and_intros
  all_goals first | exact trivial | (as_aux_lemma => kernel_rfl)

theorem dcl_named : Tryd.checked.prog.funcNamed Rows.fnExactDerivedCoupleRow.func = some 3 := by kernel_rfl
theorem dcl_inst : Tryd.f3.isInstance Tryd.checked.prog Rows.fnExactDerivedCoupleRow.origin Rows.fnExactDerivedCoupleRow.targs := of_decide_eq_true (by kernel_rfl)
theorem dcl_wrap : Tryd.f3.isWrapper Tryd.checked.prog Rows.fnExactDerivedCoupleRow.wrapper Rows.fnExactDerivedCoupleRow.mainSum := by
  unfold Func.isWrapper
  first | (rw [if_pos (by decide +kernel)]; kernel_rfl) | (rw [if_neg (by decide +kernel)]; exact ⟨rfl, rfl⟩)

set_option maxHeartbeats 2000000 in
set_option maxRecDepth 100000 in
theorem dcl_over : Rows.FnExactDerivedCoupleSaid :=
  OpenClaim.holds_of_cond 3 Tryd.f3 rfl rfl rfl rfl rfl rfl rfl ⟨rfl, rfl, rfl, rfl, rfl⟩ rfl rfl rfl rfl rfl dcl_named Tryd.func3 dcl_facts
    dcl_inst dcl_wrap (fun os started H enc _ F => by rw [OpenClaim.pre_eq_preRow]; exact dcl_lifted os started H enc F)

set_option maxRecDepth 100000 in
theorem dcl_plain (f : FuncId) (fn : Func) (hf : Tryd.pinned.checked.prog.funcNamed "loop.example/g01273/laws.FnExactDerivedCouple" = some f) (hfn : Tryd.pinned.checked.prog.funcs[f]? = some fn) :
    true = Tryd.pinned.checked.prog.looks [] ∧ ∀ (j : Nat) t, fn.params[j]? = some t → Tryd.pinned.checked.prog.wantsStandIn t = false := by
  obtain rfl : f = 3 := Option.some.inj (dcl_named.symm.trans hf) |>.symm
  obtain rfl : fn = Tryd.f3 := (Option.some.inj (Tryd.func3.symm.trans hfn)).symm
  refine ⟨by kernel_rfl, fun j t ht => ?_⟩
  rw [Tryd.params3] at ht
  have hm := Array.mem_of_getElem? ht
  simp only [List.mem_toArray, List.mem_cons, List.not_mem_nil, or_false] at hm
  obtain rfl := hm
  first | exact (show Tryd.prog.wantsStandIn 24 = false by kernel_rfl)

theorem dcl_card : Rows.FnExactDerivedCoupleCardSaid :=
  Claim7.holds_tied_plain_at .later [] _ _ _ _ dcl_over (fun _ h => by cases h) (by kernel_rfl) (fun _ h => by cases h) fnExactDerivedCouple_row_tie rfl ⟨rfl, rfl⟩ (by kernel_rfl) rfl dcl_plain (by kernel_rfl)
#print axioms dcl_card
end Go.Proofs.YtckkbojankfdfaaDoor
