/-
  FnExactPageSizes: for every couple value and number that come in (whatever their numbers, sizes and sharing), the law's call returns true and leaves the arguments as they were. The package-level variable errNotExact holds what the program's text lays. No other condition.
-/
import Derived.Test.YtckkbojankfdfaaDoorZg8
namespace Go.Proofs.YtckkbojankfdfaaDoor
open Go.ChangeShapes Go.WideShapes Go.ChangeAt Go.RowKit

set_option maxRecDepth 100000 in
theorem pzl_reads (os : Os) {H : Type} (enc : TypeId × Value → H) : ∃ places, DataW.whole enc Tryd.prog ((dorWorld os).forCall (fun _ _ => 0) ⟨#[], #[.agg #[.int .i64 0, .int .i64 0, .int .i64 0, .slice none 0 0, .slice none 0 0, .slice none 0 0], .int .i64 0], []⟩).memory Tryd.f4.params.toList Rows.fnExactPageSizesSpec.vars false (#[.agg #[.int .i64 0, .int .i64 0, .int .i64 0, .slice none 0 0, .slice none 0 0, .slice none 0 0], .int .i64 0] : Array Value).toList 8 = some ([.agg [.lit (.int .i64 0), .lit (.int .i64 0), .lit (.int .i64 0), .nil, .nil, .nil], .lit (.int .i64 0)], [tok enc (.iface 109 (.pointer (some ⟨dorLow, 0, none⟩)))], places) := ⟨[.cell 0 0], by kernel_rfl⟩
set_option maxRecDepth 100000 in
theorem pzl_lifted (os : Os) (started : os.Started) (H : Type) (enc : TypeId × Value → H) (F : Stop.Interp) :
    ReturnsInHanded {} Tryd.checked os 4 .any ((OpenSpec.ofChange Rows.fnExactPageSizesSpec).preRow enc Tryd.prog Tryd.f4 Rows.fnExactPageSizesRow.domain false Rows.fnExactPageSizesRow.laid) (((OpenSpec.ofChange Rows.fnExactPageSizesSpec).at F).post enc Tryd.prog Tryd.f4 false true false false) := by
  obtain ⟨places, hx⟩ := pzl_reads os enc
  refine returnsInHanded_of_row (C := Tryd.checked) (s := OpenSpec.ofChange Rows.fnExactPageSizesSpec) Tryd.own started (by kernel_rfl) Tryd.func4
    (witness_row_at (enc := enc) (C := Tryd.checked) false (dorWorld os) #[.agg #[.int .i64 0, .int .i64 0, .int .i64 0, .slice none 0 0, .slice none 0 0, .slice none 0 0], .int .i64 0] rfl (by kernel_rfl) (by kernel_rfl) (by kernel_rfl)
      (OpenSpec.preRow_of_cond 8 hx (by kernel_rfl) (fun k hk => by cases hk) (by kernel_rfl) (dor_met os _))) ?_
  intro W base args ds gs before hval0 hW _ _ _ hL _ _
  have hval : ∀ (j : Nat) t v, Tryd.f4.params[j]? = some t → args[j]? = some v → Value.okWide Tryd.prog W .any base t v := hval0
  have hW' := hW
  obtain ⟨p, q, hA0, hV, rfl, hfz, hnd⟩ := hW
  have hA : DataW.TrodAll enc Tryd.prog W 0 (fun _ => true) true Tryd.f4.params.toList args.toList ds p := hA0
  rw [Tryd.params4] at hA hval
  obtain ⟨v0, v1, d0, d1, p0, p1, rfl, rfl, rfl, h0, h1⟩ := trodAll_two hA
  obtain ⟨aE, hvE⟩ := dor_open hL
  have hV2 : DataW.TrodVars enc Tryd.prog W (fun _ => true) ["loop.example/g01273/impl.errNotExact"] gs q := hV
  obtain ⟨rfl, rfl⟩ := hV2.unique (dor_vars enc hvE trivial _)
  clear hV
  have k0 := h0
  have lt0 : ∀ x ∈ p0, x.block < W.heap.size := by obtain ⟨m, hm⟩ := k0; exact DataW.trod_lt m _ _ _ hm
  obtain ⟨q0p, q0d, q0e, iv0, jv0, kv0, il0, jl0, kl0, rfl, hx0, hml0⟩ := couple_of_trod (hval 0 24 v0 rfl rfl) h0
  obtain ⟨n1, rfl, rfl, rfl, wn1⟩ := open_int Tryd.underlying2 (hval 1 2 v1 rfl rfl) h1
  clear hA0 hval0
  refine (lawPzl_any q0p q0d q0e iv0 jv0 kv0 il0 jl0 kl0 n1 W hx0 hml0 (dor_cell hvE)).mono fun e W' ⟨he, bel⟩ => ?_
  subst he
  exact ⟨_, rfl, _, _, _, [], _, [.cell 0 0], hW', trodAll_mk1 (shut_bool Tryd.underlying4 _), trodAll_mk2 (Below.trod Tryd.laidOut (by kernel_rfl) (of_decide_eq_true (by kernel_rfl)) k0 bel lt0) (shut_int Tryd.underlying2 wn1), dor_vars enc (dor_below bel hvE) trivial _, bel.frame _, fun h => by cases h⟩

set_option maxRecDepth 100000 in
theorem pzl_unf : Tryd.checked.prog.unfollowed 4 = true := by kernel_rfl
theorem pzl_rec : Tryd.checked.prog.recurses 4 = true := by
  unfold Program.recurses
  rw [pzl_unf, Bool.true_or]
set_option maxRecDepth 100000 in
set_option maxHeartbeats 40000000 in
theorem pzl_facts : joinedFacts Tryd.checked.prog 4 Tryd.f4 Rows.fnExactPageSizesSpec Rows.fnExactPageSizesRow = true := by
  unfold joinedFacts
  simp only [Tryd.mayEnter, Tryd.liftsFinal, Tryd.make, pzl_rec, pzl_unf, Bool.and_eq_true]
  and_intros
  all_goals first | exact trivial | (as_aux_lemma => kernel_rfl)

theorem pzl_named : Tryd.checked.prog.funcNamed Rows.fnExactPageSizesRow.func = some 4 := by kernel_rfl
theorem pzl_inst : Tryd.f4.isInstance Tryd.checked.prog Rows.fnExactPageSizesRow.origin Rows.fnExactPageSizesRow.targs := of_decide_eq_true (by kernel_rfl)
theorem pzl_wrap : Tryd.f4.isWrapper Tryd.checked.prog Rows.fnExactPageSizesRow.wrapper Rows.fnExactPageSizesRow.mainSum := by
  unfold Func.isWrapper
  first | (rw [if_pos (by decide +kernel)]; kernel_rfl) | (rw [if_neg (by decide +kernel)]; exact ⟨rfl, rfl⟩)

set_option maxHeartbeats 2000000 in
set_option maxRecDepth 100000 in
theorem pzl_over : Rows.FnExactPageSizesSaid :=
  OpenClaim.holds_of_cond 4 Tryd.f4 rfl rfl rfl rfl rfl rfl rfl ⟨rfl, rfl, rfl, rfl, rfl⟩ rfl rfl rfl rfl rfl pzl_named Tryd.func4 pzl_facts
    pzl_inst pzl_wrap (fun os started H enc _ F => by rw [OpenClaim.pre_eq_preRow]; exact pzl_lifted os started H enc F)

set_option maxRecDepth 100000 in
theorem pzl_plain (f : FuncId) (fn : Func) (hf : Tryd.pinned.checked.prog.funcNamed "loop.example/g01273/laws.FnExactPageSizes" = some f) (hfn : Tryd.pinned.checked.prog.funcs[f]? = some fn) :
    true = Tryd.pinned.checked.prog.looks [] ∧ ∀ (j : Nat) t, fn.params[j]? = some t → Tryd.pinned.checked.prog.wantsStandIn t = false := by
  obtain rfl : f = 4 := Option.some.inj (pzl_named.symm.trans hf) |>.symm
  obtain rfl : fn = Tryd.f4 := (Option.some.inj (Tryd.func4.symm.trans hfn)).symm
  refine ⟨by kernel_rfl, fun j t ht => ?_⟩
  rw [Tryd.params4] at ht
  have hm := Array.mem_of_getElem? ht
  simp only [List.mem_toArray, List.mem_cons, List.not_mem_nil, or_false] at hm
  rcases hm with rfl | rfl <;> first | exact (show Tryd.prog.wantsStandIn 24 = false by kernel_rfl) | exact (show Tryd.prog.wantsStandIn 2 = false by kernel_rfl)

theorem pzl_card : Rows.FnExactPageSizesCardSaid :=
  Claim7.holds_tied_plain_at .later [] _ _ _ _ pzl_over (fun _ h => by cases h) (by kernel_rfl) (fun _ h => by cases h) fnExactPageSizes_row_tie rfl ⟨rfl, rfl⟩ (by kernel_rfl) rfl pzl_plain (by kernel_rfl)
#print axioms pzl_card
end Go.Proofs.YtckkbojankfdfaaDoor
